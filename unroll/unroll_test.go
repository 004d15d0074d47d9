package unroll_test

import (
	"headland/api"
	"headland/lang"
	"headland/run"
	"headland/source"
	"headland/unroll"
	"math"
	"math/rand"
	"slices"
	"strconv"
	"strings"
	"testing"
)

const most = api.MaxCoef

func parse(t *testing.T, text string) api.Program {
	t.Helper()
	p, e := source.Parse(text)
	if e != api.OK {
		t.Fatalf("Parse(%q): %d", text, e)
	}
	return p
}

// check compares a result with a program, or with an error.
func check(t *testing.T, what string, q api.Program, e api.Errno, want string, we api.Errno) {
	t.Helper()
	w := api.Program{}
	if we == api.OK {
		w = parse(t, want)
	}
	if text, _ := source.Print(q); e != we || !lang.Same(q, w) {
		t.Errorf("%s: %s, %d; want %s, %d", what, text, e, want, we)
	}
}

const line = "param n; array A[n]; for i = 0 to n - 1 { A[i] = 1; }"

// P24.1.
func TestStrip(t *testing.T) {
	for _, x := range []struct {
		text string
		path []int
		k    int
		want string
		e    api.Errno
	}{
		{line, []int{0}, 4, "param n; array A[n]; for s1 = 0 to n - 1 step 4 { for i = s1 to min(n - 1, s1 + 3) { A[i] = 1; } }", api.OK},
		{"param n; array A[n]; array s1; for s2 = 0 to n { for i = s2 - 1 to max(n, min(s2 + 3, floor(n - 2 s2, 3))) step 3 parallel { if { n, s2, i : 2 | i - s2 } { A[i] = A[s2] + <i - 2 n>; } else { for j = ceil(i, 2) to max(min(s2, i), i) { A[j + i] = s1; } } } }", []int{0, 0, 0}, 2, "param n; array A[n]; array s1; for s2 = 0 to n { for s3 = s2 - 1 to max(n, min(s2 + 3, floor(n - 2 s2, 3))) step 6 parallel { for i = s3 to max(min(n, s3 + 3), min(s2 + 3, floor(n - 2 s2, 3), s3 + 3)) step 3 { if { n, s2, s3, i : 2 | i - s2 } { A[i] = A[s2] + <i - 2 n>; } else { for j = ceil(i, 2) to max(min(s2, i), i) { A[j + i] = s1; } } } } }", api.OK},
		{"for i = 0 to 9 vector { }", []int{0}, 64, "for s1 = 0 to 9 step 64 vector { for i = s1 to min(9, s1 + 63) { } }", api.OK}, {"for i = 0 to 9 step 32 { }", []int{0}, 2, "for s1 = 0 to 9 step 64 { for i = s1 to min(9, s1 + 32) step 32 { } }", api.OK},
		{line, []int{0}, 1, "", api.ErrRange}, {line, []int{0}, 65, "", api.ErrRange}, {line, []int{0}, math.MinInt, "", api.ErrRange}, {"for i = max(0, 1) to 9 { }", []int{0}, 65, "", api.ErrRange}, {"for i = max(0, 1) to 9 { }", []int{0}, 2, "", api.ErrForm}, {"for i = min(0, 1) to 9 { }", []int{0}, 2, "", api.ErrForm}, {"for i = ceil(1, 2) to 9 { }", []int{0}, 2, "", api.ErrForm}, {"for i = 0 to 9 step 33 { }", []int{0}, 2, "", api.ErrFull}, {"for i = 0 to 9 step 2 { }", []int{0}, 33, "", api.ErrFull}, {"for i = 0 to 9 step 2 { }", []int{0}, math.MaxInt, "", api.ErrRange},
		{line, []int{0, 0, 0}, 2, "", api.ErrNone}, {line, nil, 2, "", api.ErrNone}, {line, []int{1}, 99, "", api.ErrNone}, {"if { : true } { }", []int{0}, 2, "", api.ErrNone},
	} {
		q, e := unroll.Strip(parse(t, x.text), x.path, x.k)
		check(t, "Strip of "+x.text, q, e, x.want, x.e)
	}
}

// P24.2.
func TestUnroll(t *testing.T) {
	for _, x := range []struct {
		text string
		path []int
		k    int
		want string
		e    api.Errno
	}{
		{line, []int{0}, 2, "param n; array A[n]; for i = 0 to n - 1 step 2 { A[i] = 1; if { n, i : n - i - 2 >= 0 } { A[i + 1] = 1; } }", api.OK},
		{"param n; array A[n]; for i = n to max(floor(n + 7, 2), min(5, n - 1)) step 2 vector { A[2 i] = <i>; for j = i + n to 2 i { if { n, i, j : 3 | i + j or i = 2 j } { A[j - i] = A[i]; } } }", []int{0}, 3, "param n; array A[n]; for i = n to max(floor(n + 7, 2), min(5, n - 1)) step 6 vector { A[2 i] = <i>; for j = i + n to 2 i { if { n, i, j : 3 | i + j or i = 2 j } { A[j - i] = A[i]; } } " +
			"if { n, i : n - 2 i + 3 >= 0 or 3 - i >= 0 and n - i - 3 >= 0 } { A[2 i + 4] = <i + 2>; for j = i + n + 2 to 2 i + 4 { if { n, i, j : 3 | i + j + 2 or i - 2 j + 2 = 0 } { A[j - i - 2] = A[i + 2]; } } } " +
			"if { n, i : n - 2 i - 1 >= 0 or 1 - i >= 0 and n - i - 5 >= 0 } { A[2 i + 8] = <i + 4>; for j = i + n + 4 to 2 i + 8 { if { n, i, j : 3 | i + j + 4 or i - 2 j + 4 = 0 } { A[j - i - 4] = A[i + 4]; } } } }", api.OK},
		{"array S; for i = 0 to 9 { }", []int{0}, 2, "array S; for i = 0 to 9 step 2 { if { i : 8 - i >= 0 } { } }", api.OK}, {line, []int{0}, 1, "", api.ErrRange}, {line, []int{0}, 65, "", api.ErrRange}, {"for i = ceil(1, 2) to 9 { }", []int{0}, 2, "", api.ErrForm}, {"for i = ceil(1, 2) to 9 { }", []int{0}, 65, "", api.ErrRange}, {"for i = 0 to 9 step 33 { }", []int{0}, 2, "", api.ErrFull}, {line, []int{0, 0, 0}, 2, "", api.ErrNone},
		// Numbers beyond the limits: in the test, in the body.
		{"for i = 0 to floor(-1048576, 512) { }", []int{0}, 2, "", api.ErrFull}, {"for i = 0 to floor(-1048064, 512) { }", []int{0}, 2, "for i = 0 to floor(-1048064, 512) step 2 { if { i : -512 i - 1048576 >= 0 } { } }", api.OK}, {"array S; for i = 0 to 9 { S = <1048576 i + 1>; }", []int{0}, 2, "", api.ErrFull}, {"array S; for i = 0 to 9 { S = <1048576 i>; }", []int{0}, 2, "array S; for i = 0 to 9 step 2 { S = <1048576 i>; if { i : 8 - i >= 0 } { S = <1048576 i + 1048576>; } }", api.OK}, {"array S; for i = 0 to 9 { if { i : 1048576 i + 1 >= 0 } { S = 1; } }", []int{0}, 2, "", api.ErrFull}, {"array S; for i = 0 to 9 { for j = 0 to 1048576 i + 1 { S = 1; } }", []int{0}, 2, "", api.ErrFull}, {"array A[9]; for i = 0 to 9 { A[1048576 i + 1] = 1; }", []int{0}, 2, "", api.ErrFull},
	} {
		q, e := unroll.Unroll(parse(t, x.text), x.path, x.k)
		check(t, "Unroll of "+x.text, q, e, x.want, x.e)
	}
	// 1 + 4 + 63 * 4 statements are too many with 4 in the body, and 1 + 3 + 63 * 4 are not.
	for n, want := range map[int]api.Errno{3: api.OK, 4: api.ErrFull} {
		p := parse(t, "array S; for i = 0 to 9 { "+strings.Repeat("S = 1; ", n)+"}")
		if q, e := unroll.Unroll(p, []int{0}, 64); e != want || e != api.OK && !lang.Same(q, api.Program{}) {
			t.Errorf("%d statements: %d", n, e)
		}
	}
}

// P24.3.
func TestPeel(t *testing.T) {
	for _, x := range []struct {
		text string
		path []int
		want string
		e    api.Errno
	}{
		{line, []int{0}, "param n; array A[n]; if { n : n - 1 >= 0 } { A[0] = 1; } for i = 1 to n - 1 { A[i] = 1; }", api.OK},
		{"param n; array A[n]; for k = 0 to n { for i = n - 2 k to max(floor(n + 7, 2), min(5, n - k)) step 2 parallel { A[2 i + k] = <i>; for j = i + n to 2 i { if { n, k, i, j : 3 | i + j or i = 2 j + k } { A[j - i] = A[i]; } } } A[k] = 1; }", []int{0, 0, 0}, "param n; array A[n]; for k = 0 to n { if { n, k : 4 k - n + 7 >= 0 or 5 - n + 2 k >= 0 and k >= 0 } { A[2 n - 3 k] = <n - 2 k>; for j = 2 n - 2 k to 2 n - 4 k { if { n, k, j : 3 | n - 2 k + j or n - 3 k - 2 j = 0 } { A[j - n + 2 k] = A[n - 2 k]; } } } for i = n - 2 k + 2 to max(floor(n + 7, 2), min(5, n - k)) step 2 parallel { A[2 i + k] = <i>; for j = i + n to 2 i { if { n, k, i, j : 3 | i + j or i = 2 j + k } { A[j - i] = A[i]; } } } A[k] = 1; }", api.OK},
		{"for i = 3 to 9 { }", []int{0}, "if { : 6 >= 0 } { } for i = 4 to 9 { }", api.OK}, {"for i = 3 to max(1, 2) { }", []int{0}, "if { : -2 >= 0 or -1 >= 0 } { } for i = 4 to max(1, 2) { }", api.OK}, {"for i = max(0, 1) to 9 { }", []int{0}, "", api.ErrForm}, {"for i = min(0, 1) to 9 { }", []int{0}, "", api.ErrForm}, {"for i = ceil(1, 2) to 9 { }", []int{0}, "", api.ErrForm}, {line, []int{0, 0, 0}, "", api.ErrNone}, {line, []int{-1}, "", api.ErrNone},
		{"for i = 1048576 to 9 { }", []int{0}, "", api.ErrFull}, {"for i = 1048575 to 1048575 { }", []int{0}, "if { : 0 >= 0 } { } for i = 1048576 to 1048575 { }", api.OK}, {"for i = 3000 to floor(9, 512) { }", []int{0}, "", api.ErrFull}, {"array S; for i = 2 to 9 { S = <1048576 i>; }", []int{0}, "", api.ErrFull}, {"array S; for i = 1 to 9 { S = <1048576 i>; }", []int{0}, "array S; if { : 8 >= 0 } { S = <1048576>; } for i = 2 to 9 { S = <1048576 i>; }", api.OK},
	} {
		q, e := unroll.Peel(parse(t, x.text), x.path)
		check(t, "Peel of "+x.text, q, e, x.want, x.e)
	}
	for n, want := range map[int]api.Errno{127: api.OK, 128: api.ErrFull} {
		p := parse(t, "array S; for i = 0 to 9 { "+strings.Repeat("S = 1; ", n)+"}")
		if q, e := unroll.Peel(p, []int{0}); e != want || e != api.OK && !lang.Same(q, api.Program{}) {
			t.Errorf("%d statements: %d", n, e)
		}
	}
}

// P24.4.
func TestSplit(t *testing.T) {
	l := func(k int, c ...int) api.Lin { return api.Lin{C: c, K: k} }
	long := func(n int) string { return strings.Repeat("0, ", n) + "0" }
	for _, x := range []struct {
		text string
		path []int
		at   api.Lin
		want string
		e    api.Errno
	}{
		{line, []int{0}, l(3, 0), "param n; array A[n]; for i = 0 to min(n - 1, 2) { A[i] = 1; } for i = max(0, 3) to n - 1 { A[i] = 1; }", api.OK},
		{"param n; array A[n]; for k = 0 to n { for i = min(max(0, k), ceil(n, 2)) to max(n, min(k, 9)) parallel { A[i] = <k>; } A[0] = 1; }", []int{0, 0, 0}, l(-1, 1, 2), "param n; array A[n]; for k = 0 to n { for i = min(max(0, k), ceil(n, 2)) to max(min(n, n + 2 k - 2), min(k, 9, n + 2 k - 2)) parallel { A[i] = <k>; } for i = min(max(0, k, n + 2 k - 1), max(ceil(n, 2), n + 2 k - 1)) to max(n, min(k, 9)) parallel { A[i] = <k>; } A[0] = 1; }", api.OK},
		{line, []int{0}, l(most+1, 0, 0), "", api.ErrArg}, {line, []int{0}, l(0), "", api.ErrDim}, {line, []int{0}, l(0, 0, 0), "", api.ErrDim}, {"for i = 0 to 9 step 2 { }", []int{0}, l(0, 0), "", api.ErrDim}, {"for i = 0 to 9 step 2 { }", []int{0}, l(0), "", api.ErrForm}, {line, []int{0}, l(-most, 0), "", api.ErrFull}, {line, []int{0}, l(most, 0), "param n; array A[n]; for i = 0 to min(n - 1, 1048575) { A[i] = 1; } for i = max(0, 1048576) to n - 1 { A[i] = 1; }", api.OK}, {line, []int{0, 0, 0}, l(most + 1), "", api.ErrNone}, {line, nil, l(most + 1), "", api.ErrNone},
		{"for i = max(" + long(95) + ") to 9 { }", []int{0}, l(0), "", api.ErrFull}, {"for i = max(" + long(94) + ") to 9 { }", []int{0}, l(0), "for i = max(" + long(94) + ") to min(9, -1) { } for i = max(" + long(95) + ") to 9 { }", api.OK}, {"for i = 0 to min(" + long(95) + ") { }", []int{0}, l(0), "", api.ErrFull},
	} {
		q, e := unroll.Split(parse(t, x.text), x.path, x.at)
		check(t, "Split of "+x.text, q, e, x.want, x.e)
	}
}

// P24.5, P24.6.
func TestNameMark(t *testing.T) {
	const nest = "param n; array A[n]; for i = 0 to n { for j = i to n vector { A[j] = <i>; } } for k = 0 to n { }"
	for _, x := range []struct {
		path []int
		name string
		want string
		e    api.Errno
	}{
		{[]int{0}, "x", strings.NewReplacer("for i", "for x", "= i", "= x", "<i>", "<x>").Replace(nest), api.OK}, {[]int{0, 0, 0}, "k", strings.NewReplacer("for j", "for k", "[j]", "[k]").Replace(nest), api.OK}, {[]int{0}, "i", nest, api.OK}, {[]int{1}, "i", strings.ReplaceAll(nest, "for k", "for i"), api.OK},
		{[]int{0}, "j", "", api.ErrArg}, {[]int{0, 0, 0}, "i", "", api.ErrArg}, {[]int{0}, "n", "", api.ErrArg}, {[]int{0}, "A", "", api.ErrArg}, {[]int{0}, "to", "", api.ErrForm}, {[]int{0}, "", "", api.ErrForm}, {[]int{0}, "abcdefghijklm", "", api.ErrForm}, {[]int{0, 0, 0, 0, 0}, "to", "", api.ErrNone}, {[]int{7}, "x", "", api.ErrNone},
	} {
		q, e := unroll.Name(parse(t, nest), x.path, x.name)
		check(t, "Name "+x.name, q, e, x.want, x.e)
	}
	for _, x := range []struct {
		path []int
		mark int
		want string
		e    api.Errno
	}{
		{[]int{0}, api.Parallel, strings.Replace(nest, "0 to n {", "0 to n parallel {", 1), api.OK}, {[]int{0, 0, 0}, api.Plain, strings.Replace(nest, " vector", "", 1), api.OK}, {[]int{0, 0, 0}, api.Vector, nest, api.OK}, {[]int{0}, 3, "", api.ErrRange}, {[]int{0}, -1, "", api.ErrRange}, {[]int{0}, math.MaxInt, "", api.ErrRange}, {[]int{5}, 3, "", api.ErrNone}, {[]int{0, 0, 0, 0, 0}, 1, "", api.ErrNone},
	} {
		q, e := unroll.Mark(parse(t, nest), x.path, x.mark)
		check(t, "Mark "+strconv.Itoa(x.mark), q, e, x.want, x.e)
	}
}

// P24.7.
func TestLoops(t *testing.T) {
	p := parse(t, "array S; S = 1; for i = 0 to 1 { S = 1; if { i : true } { for j = 0 to 1 { } } else { S = 2; for k = 0 to 1 { for l = 0 to 1 { } } } for m = 0 to 1 { } } if { : true } { } else { for i = 0 to 1 { } }")
	want := [][]int{{1}, {1, 0, 1, 0, 0}, {1, 0, 1, 1, 1}, {1, 0, 1, 1, 1, 0, 0}, {1, 0, 2}, {2, 1, 0}}
	l, e := unroll.Loops(p)
	if e != api.OK || !slices.EqualFunc(l, want, slices.Equal[[]int]) {
		t.Errorf("Loops: %v, %d", l, e)
	}
	for i := range l {
		l[i] = append(l[i], 99)
		l[i][0] = 98
	}
	if l[3][7] != 99 || l[4][1] != 0 {
		t.Error("shared memory")
	}
	if l, e := unroll.Loops(api.Program{}); e != api.OK || len(l) != 0 {
		t.Errorf("Loops of nothing: %v, %d", l, e)
	}
}

func TestErrors(t *testing.T) {
	bad := api.Program{Params: []string{"to"}}
	_, e1 := unroll.Strip(bad, nil, 0)
	_, e2 := unroll.Unroll(bad, nil, 0)
	_, e3 := unroll.Peel(bad, nil)
	_, e4 := unroll.Split(bad, nil, api.Lin{})
	_, e5 := unroll.Name(bad, nil, "")
	_, e6 := unroll.Mark(bad, nil, 9)
	_, e7 := unroll.Loops(bad)
	if l := []api.Errno{e1, e2, e3, e4, e5, e6, e7}; !slices.Equal(l, slices.Repeat([]api.Errno{api.ErrArg}, 7)) {
		t.Errorf("%v", l)
	}
	// Ten loops, one of which cannot be stripped.
	deep, end := "", ""
	for i := range 10 {
		deep += "for " + string(rune('a'+i)) + " = 0 to 0 { "
		end += "}"
	}
	p := parse(t, "array S; "+deep+"S = 1;"+end)
	if q, e := unroll.Strip(p, []int{0}, 2); e != api.ErrFull || !lang.Same(q, api.Program{}) {
		t.Errorf("Strip of ten loops: %d", e)
	}
	two := parse(t, "param n; param m; array S; "+deep+"S = 1;"+end)
	if q, e := unroll.Strip(two, []int{0}, 2); e != api.ErrFull || !lang.Same(q, api.Program{}) {
		t.Errorf("Strip of ten loops: %d", e)
	}
}

// P24.8, P24.9, P24.10.
func TestExecutions(t *testing.T) {
	r := rand.New(rand.NewSource(27))
	for _, text := range []string{
		"param n; array A[60]; for i = 0 to n { A[i] = A[i + 1] + <i>; for j = i to 2 i + 3 step 2 { A[j] = A[j + i] * 2; if { n, i, j : 3 | i + j } { A[j + 1] = <j - i>; } else { for k = j to n { A[k + j] = A[i] + <k>; } } } }",
		"param n; array A[60]; for i = n to max(min(2 n, 7), floor(n + 9, 2)) step 3 { A[i] = 1; for j = -i to floor(i, 2) { A[i + j] = A[i] + <j>; } } for i = 0 to n - 2 { for j = 0 to 3 { A[i] = A[i] + A[j]; } }",
	} {
		p := parse(t, text)
		paths, _ := unroll.Loops(p)
		for range 60 {
			path := paths[r.Intn(len(paths))]
			k := r.Intn(4) + 2
			names, _ := lang.Space(p, path)
			at := api.Lin{C: make([]int, len(names)), K: r.Intn(7) - 1}
			at.C[r.Intn(len(names))] = r.Intn(3) - 1
			type result struct {
				q     api.Program
				e     api.Errno
				fewer bool
			}
			results := []result{}
			add := func(q api.Program, e api.Errno, fewer bool) { results = append(results, result{q, e, fewer}) }
			q, e := unroll.Strip(p, path, k)
			add(q, e, false)
			strip := q
			q, e = unroll.Unroll(p, path, k)
			add(q, e, true)
			q, e = unroll.Peel(p, path)
			add(q, e, true)
			q, e = unroll.Split(p, path, at)
			add(q, e, true)
			for i, x := range results {
				if x.e == api.ErrForm {
					continue
				}
				if x.e != api.OK {
					t.Fatalf("%d: %d", i, x.e)
				}
				for n := range 6 {
					compare(t, p, x.q, []int{n}, x.fewer)
				}
			}
			if len(path) == 1 && results[0].e == api.OK {
				checkStrips(t, p, strip, path, k)
			}
		}
	}
}

// compare executes p and q.
func compare(t *testing.T, p, q api.Program, params []int, fewer bool) {
	t.Helper()
	m, _ := run.Fresh(p, params, 3)
	_, steps, e := run.Run(p, params, m)
	_, other, f := run.Run(q, params, m)
	x, _ := run.Trace(p, params, m)
	y, _ := run.Trace(q, params, m)
	text, _ := source.Print(q)
	if e != api.OK || f != api.OK || fewer && other > steps || !slices.EqualFunc(x, y, func(a, b run.Event) bool {
		return a.Pos == b.Pos && a.Array == b.Array && a.Cell == b.Cell && a.Value == b.Value
	}) {
		t.Fatalf("%v: %d, %d, %d and %d steps of\n%s", params, e, f, steps, other, text)
	}
}

// checkStrips counts the iterations of a loop of the body, and of the loop over its blocks.
func checkStrips(t *testing.T, p, q api.Program, path []int, k int) {
	t.Helper()
	count := func(p api.Program, n int) int {
		s, e := lang.At(p, path)
		if e != api.OK {
			t.Fatal(e)
		}
		s.Body = nil
		_, steps, e := run.Run(api.Program{Params: p.Params, Body: []api.Stmt{s}}, []int{n}, nil)
		if e != api.OK {
			t.Fatal(e)
		}
		return steps
	}
	for n := range 8 {
		if a, b := count(p, n), count(q, n); b > (a+k-1)/k {
			t.Fatalf("%d iterations became %d blocks of %d", a, b, k)
		}
	}
}
