package sched

import (
	"headland/api"
	"headland/lang"
	"strconv"
	"strings"
)

// Text writes one line for each assignment.
func Text(p api.Program, s api.Sched) (string, api.Errno) {
	if e := Check(p, s); e != api.OK {
		return "", e
	}
	text := written(s)
	if len(text) > api.MaxText {
		return "", api.ErrFull
	}
	return text, api.OK
}

func written(s api.Sched) string {
	var b strings.Builder
	for k, l := range s.Rows {
		b.WriteString("S" + strconv.Itoa(k) + ":")
		for _, r := range l {
			b.WriteString(" (")
			for _, c := range r.L.C {
				b.WriteString(strconv.Itoa(c) + " ")
			}
			b.WriteString(strconv.Itoa(r.L.K) + ")")
			if r.Div != 1 {
				b.WriteString("/" + strconv.Itoa(r.Div))
			}
		}
		b.WriteByte('\n')
	}
	return b.String()
}

// Parse reads the schedule whose text this is.
func Parse(p api.Program, text string) (api.Sched, api.Errno) {
	infos, e := lang.Assigns(p)
	if e != api.OK {
		return api.Sched{}, e
	}
	if len(text) > api.MaxText {
		return api.Sched{}, api.ErrFull
	}
	x := &reader{rest: text}
	s := api.Sched{}
	for range infos {
		s.Rows = append(s.Rows, x.line())
	}
	// What the reader lets pass shows when the schedule is written again.
	if x.failed || Check(p, s) != api.OK || written(s) != text {
		return api.Sched{}, api.ErrForm
	}
	return s, api.OK
}

// reader reads the text of a schedule. After a failure its results mean nothing.
type reader struct {
	rest   string
	failed bool
}

// accept takes a text if it comes next.
func (x *reader) accept(text string) bool {
	rest, ok := strings.CutPrefix(x.rest, text)
	x.rest = rest
	return ok
}

// expect takes a text that must come next.
func (x *reader) expect(text string) {
	x.failed = !x.accept(text) || x.failed
}

// number takes a number.
func (x *reader) number() int {
	i := 0
	for i < len(x.rest) && strings.IndexByte("-0123456789", x.rest[i]) >= 0 {
		i++
	}
	n, err := strconv.Atoi(x.rest[:i])
	x.failed = x.failed || err != nil
	x.rest = x.rest[i:]
	return n
}

// separated takes several things with a text between each two of them.
func separated[T any](x *reader, between string, one func() T) []T {
	l := []T{one()}
	for x.accept(between) && !x.failed {
		l = append(l, one())
	}
	return l
}

// line takes the rows of an assignment.
func (x *reader) line() []api.Row {
	x.expect("S")
	x.number()
	x.expect(":")
	var l []api.Row
	if x.accept(" ") {
		l = separated(x, " ", x.row)
	}
	x.expect("\n")
	return l
}

func (x *reader) row() api.Row {
	x.expect("(")
	numbers := separated(x, " ", x.number)
	x.expect(")")
	last := len(numbers) - 1
	r := api.Row{L: api.Lin{C: numbers[:last:last], K: numbers[last]}, Div: 1}
	if x.accept("/") {
		r.Div = x.number()
	}
	return r
}
