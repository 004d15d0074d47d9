package tree

import "headland/api"

// Assigns returns statements in which other statements stand for each assignment, which is given by its number.
func Assigns(l []api.Stmt, replace func(number int, s api.Stmt) ([]api.Stmt, api.Errno)) ([]api.Stmt, api.Errno) {
	number := 0
	var walk func(l []api.Stmt) ([]api.Stmt, api.Errno)
	walk = func(l []api.Stmt) ([]api.Stmt, api.Errno) {
		var r []api.Stmt
		for _, s := range l {
			if s.Kind == api.Assign {
				m, e := replace(number, s)
				if e != api.OK {
					return nil, e
				}
				number++
				r = append(r, m...)
				continue
			}
			var e api.Errno
			if s.Body, e = walk(s.Body); e != api.OK {
				return nil, e
			}
			if s.Else, e = walk(s.Else); e != api.OK {
				return nil, e
			}
			r = append(r, s)
		}
		return r, api.OK
	}
	return walk(l)
}

// Count returns the number of statements.
func Count(l []api.Stmt) int {
	n := len(l)
	for _, s := range l {
		n += Count(s.Body) + Count(s.Else)
	}
	return n
}
