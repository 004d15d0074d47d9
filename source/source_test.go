package source_test

import (
	"headland/api"
	"headland/lang"
	"headland/source"
	"math"
	"strings"
	"testing"
)

const most = api.MaxCoef

// forms are programs with their printed forms (where these are different).
func forms() [][2]string {
	return [][2]string{
		{"", ""},
		{"param n; array A[n + 1]; for i = 0 to n - 1 { A[i] = A[i + 1] + 1; }", "param n;\narray A[n + 1];\nfor i = 0 to n - 1 {\n  A[i] = A[i + 1] + 1;\n}\n"},
		{"param n;param m;array S;array B[ 2*n ][m-3][ 7 ];", "param n;\nparam m;\narray S;\narray B[2 n][m - 3][7];\n"},
		{"array S; S=1;S=-1;S=S;S=<3>;S=<-3+3>;", "array S;\nS = 1;\nS = -1;\nS = S;\nS = <3>;\nS = <0>;\n"},
		{"array S; S = -2147483648; S = 2147483647; S = - 7; S = - 0;", "array S;\nS = -2147483648;\nS = 2147483647;\nS = -7;\nS = 0;\n"},
		// Operators associate to the left.
		{"array S; S = 1 + 2 - 3 + 4; S = 1 * 2 * 3; S = 1 + 2 * 3; S = 1 * 2 + 3;", "array S;\nS = 1 + 2 - 3 + 4;\nS = 1 * 2 * 3;\nS = 1 + 2 * 3;\nS = 1 * 2 + 3;\n"},
		{"array S; S = ((1 + 2)) - 3; S = 1 + (2 - 3); S = 1 - (2 + 3); S = (1 - 2) * 3; S = 1 * (2 + 3); S = 1 * (2 * 3); S = (1 * 2) * 3; S = 1 + (2 * 3); S = (1 * 2) - 3;", "array S;\nS = 1 + 2 - 3;\nS = 1 + (2 - 3);\nS = 1 - (2 + 3);\nS = (1 - 2) * 3;\nS = 1 * (2 + 3);\nS = 1 * (2 * 3);\nS = 1 * 2 * 3;\nS = 1 + 2 * 3;\nS = 1 * 2 - 3;\n"},
		{"array S; S = min(1, 2 + 3); S = max((1), min(S, S)) * 2; S = 2 * max(1, 2); S = 1 - min(1, 2); S = 1 - -1; S = 1 * -1; S = 1--1; S = <2> - <3>;S=<2>*<3>;", "array S;\nS = min(1, 2 + 3);\nS = max(1, min(S, S)) * 2;\nS = 2 * max(1, 2);\nS = 1 - min(1, 2);\nS = 1 - -1;\nS = 1 * -1;\nS = 1 - -1;\nS = <2> - <3>;\nS = <2> * <3>;\n"},
		// Bounds.
		{"param n; for i = 0 to n { } for i = n to 0 step 2 { } for i = 0 to 1 step 64 parallel { } for i = 0 to 1 vector { } for i = 0 to 1 parallel { }", "param n;\nfor i = 0 to n {\n}\nfor i = n to 0 step 2 {\n}\nfor i = 0 to 1 step 64 parallel {\n}\nfor i = 0 to 1 vector {\n}\nfor i = 0 to 1 parallel {\n}\n"},
		{"param n; for i = 0 to 5 { for j = min(max(0, ceil(i, 2)), i - 4) to max(min(n, floor(i + n, 3))) step 1 { } }", "param n;\nfor i = 0 to 5 {\n  for j = min(max(0, ceil(i, 2)), i - 4) to max(min(n, floor(n + i, 3))) {\n  }\n}\n"},
		{"param n; for i = max(0, n) to min(1, n) { }", "param n;\nfor i = min(max(0, n)) to max(min(1, n)) {\n}\n"},
		{"param n; for i = min(0) to max(min(n)) { } for i = max(0) to min(n) { } for i = min(max(0)) to max(n) { } for i = ceil(n, 1) to floor(n, 1) { } for i = ceil(n, 512) to floor(n, 2) { }", "param n;\nfor i = 0 to n {\n}\nfor i = 0 to n {\n}\nfor i = 0 to n {\n}\nfor i = n to n {\n}\nfor i = ceil(n, 512) to floor(n, 2) {\n}\n"},
		{"param n; for i = min(max(0, 1), max(2), 3, max(4, 5, 6)) to max(0, min(1, floor(n, 2))) { }", "param n;\nfor i = min(max(0, 1), 2, 3, max(4, 5, 6)) to max(0, min(1, floor(n, 2))) {\n}\n"},
		// Tests.
		{"param n; array S; if{n:n>3 or 2|n and n=0 or false}{S=1;}else{}", "param n;\narray S;\nif { n : n - 4 >= 0 or 2 | n and n = 0 } {\n  S = 1;\n}\n"},
		{"array S; if { : true } { } else { if { : false } { S = 1; } else { S = 2; } S = 3; }", "array S;\nif { : true } {\n} else {\n  if { : false } {\n    S = 1;\n  } else {\n    S = 2;\n  }\n  S = 3;\n}\n"},
		{"param n; array A[n]; for i = 0 to n { for j = i to n { if { n, i, j : i = j } { A[i - j + 2 n] = A[j] * <i + 2 j - 3>; } } }", "param n;\narray A[n];\nfor i = 0 to n {\n  for j = i to n {\n    if { n, i, j : i - j = 0 } {\n      A[2 n + i - j] = A[j] * <i + 2 j - 3>;\n    }\n  }\n}\n"},
		{"param n; array A[n][n]; for i=0 to n{A[i][0]=A[0][i];} for i=0 to n{A[i][1]=1;}", "param n;\narray A[n][n];\nfor i = 0 to n {\n  A[i][0] = A[0][i];\n}\nfor i = 0 to n {\n  A[i][1] = 1;\n}\n"},
	}
}

// P11.1, P11.2, P11.4.
func TestForms(t *testing.T) {
	for _, x := range forms() {
		p, e := source.Parse(x[0])
		if e != api.OK || lang.Check(p) != api.OK {
			t.Errorf("Parse(%q): %d", x[0], e)
			continue
		}
		text, e := source.Print(p)
		if text != x[1] || e != api.OK {
			t.Errorf("Print of %q: %q, %d", x[0], text, e)
		}
		if q, e := source.Parse(text); e != api.OK || !lang.Same(p, q) {
			t.Errorf("Parse(%q): %v, %d", text, q, e)
		}
	}
}

func l(k int, c ...int) api.Lin { return api.Lin{C: c, K: k} }

// P11.1: what is parsed, in detail.
func TestParts(t *testing.T) {
	p, e := source.Parse("param n; array A[n + 1]; array S; for i = max(n, ceil(2 i2 - i2 + 3, 4)) to n { }")
	if e != api.ErrForm || !lang.Same(p, api.Program{}) {
		t.Errorf("an unknown name: %v, %d", p, e)
	}
	p, e = source.Parse("param n; array A[n + 1]; array S; for i = min(1, max(n, ceil(2 n + 3, 4))) to floor(n, 5) parallel { if { n, i : i >= 2 n and 3 | i } { A[i] = min(S, <i - 1>) - 2; } else { S = A[n] * -4; } }")
	one, row := func(x api.Lin) api.Bound { return api.Bound{Parts: [][]api.Row{{{L: x, Div: 5}}}} }, func(x api.Lin, d int) api.Row { return api.Row{L: x, Div: d} }
	num := func(k int) api.Expr { return api.Expr{Op: api.Num, K: k} }
	op := func(o int, a, b api.Expr) api.Expr { return api.Expr{Op: o, Args: []api.Expr{a, b}} }
	want := api.Program{Params: []string{"n"}, Arrays: []api.Array{{Name: "A", Sizes: []api.Lin{l(1, 1)}}, {Name: "S"}}, Body: []api.Stmt{{
		Kind: api.For, Name: "i", Step: 1, Mark: api.Parallel, Low: api.Bound{Parts: [][]api.Row{{row(l(1, 0), 1)}, {row(l(0, 1), 1), row(l(3, 2), 4)}}}, High: one(l(0, 1)),
		Body: []api.Stmt{{
			Kind: api.If, Test: api.Set{Dim: 2, Pieces: [][]api.Cond{{{Kind: api.Ge, L: l(0, -2, 1)}, {Kind: api.Div, M: 3, L: l(0, 0, 1)}}}},
			Body: []api.Stmt{{Kind: api.Assign, Target: api.Ref{Array: 0, Subs: []api.Lin{l(0, 0, 1)}}, Value: op(api.Sub, op(api.Min, api.Expr{Op: api.Read, R: api.Ref{Array: 1}}, api.Expr{Op: api.Aff, L: l(-1, 0, 1)}), num(2))}},
			Else: []api.Stmt{{Kind: api.Assign, Target: api.Ref{Array: 1}, Value: op(api.Mul, api.Expr{Op: api.Read, R: api.Ref{Array: 0, Subs: []api.Lin{l(0, 1, 0)}}}, num(-4))}},
		}},
	}}}
	if e != api.OK || !lang.Same(p, want) {
		t.Errorf("%v, %d", p, e)
	}
	// A test may be over more than the text says, if the numbers cancel, and nothing is normalized.
	p, e = source.Parse("if { : 4 >= 0 and 6 | 8 or true or true } { }")
	if e != api.OK || len(p.Body[0].Test.Pieces) != 3 || p.Body[0].Test.Pieces[0][1].M != 6 {
		t.Errorf("%v, %d", p, e)
	}
	p, e = source.Parse("param n; array A[n]; A[2000000 n - 1999999 n + 2147483648 - 2147483647] = 1;")
	if e != api.OK || p.Body[0].Target.Subs[0].K != 1 || p.Body[0].Target.Subs[0].C[0] != 1 {
		t.Errorf("%v, %d", p, e)
	}
}

func wrong(t *testing.T, want api.Errno, texts ...string) {
	t.Helper()
	for _, text := range texts {
		if p, e := source.Parse(text); e != want || !lang.Same(p, api.Program{}) {
			t.Errorf("Parse(%.100q): %d, want %d", text, e, want)
		}
	}
}

func TestForm(t *testing.T) {
	wrong(t, api.ErrForm,
		";", "x", "param", "param n", "param ;", "param 1;", "param n m;", "param n, m;", "param to;", "array", "array A", "array A[;", "array A[];", "array A[1;", "array A[1]]", "array A[n];", "array A[A];", "array A(1);", "array abcdefghijklm;", "array A; param n;", "array S; S = 1; array T;", "param n; S = 1;",
		"array S; S", "array S; S =", "array S; S = 1", "array S; S = ;", "array S; S == 1;", "array S; 1 = S;", "array S; S = 1 +;", "array S; S = + 1;", "array S; S = 1 2;", "array S; S = (1;", "array S; S = 1);", "array S; S = ();", "array S; S = <>;", "array S; S = <1;", "array S; S = 1>;", "array S; S = <S>;", "array S; S = T;", "array S; T = 1;", "array S; S = -S;", "array S; S = -(1);", "array S; S = --1;", "array S; S = - -1;", "array S; S = -<1>;", "array S; S = 1 / 2;", "array S; S = min(1);", "array S; S = min 1, 2;", "array S; S = min(1, 2, 3);", "array S; S = max(, 1);", "array S; S = floor(1, 2);", "array S; S = 1 ** 2;",
		"array S; S[0] = 1;", "array A[1]; A = 1;", "array A[1]; A[0][0] = 1;", "array A[1]; A[0] = A;", "array A[1]; A[0] = A[0][0];", "array A[1]; A[i] = 1;", "array A[1]; A[0 = 1;", "array A[1]; A[A[0]] = 1;", "array A[1]; A[2 * 3] = 1;", "array A[1]; A[1 - -1] = 1;", "array S; S = 2147483649;", "array S; S = -2147483649;", "param n; n = 1;", "param n; array S; S = n;",
		"for", "for i", "for i = 0", "for i = 0 to 1", "for i = 0 to 1 {", "for i = 0 to 1 }", "for = 0 to 1 { }", "for 1 = 0 to 1 { }", "for i 0 to 1 { }", "for i = to 1 { }", "for i = 0 1 { }", "for i = 0 to { }", "for i = 0 to 1 step { }", "for i = 0 to 1 step -1 { }", "for i = 0 to 1 step n { }", "for i = 0 to 1 parallel vector { }", "for i = 0 to 1 parallel step 2 { }", "for i = 0 to 1 { } }", "for i = 0 to 1 { } ;", "for i = i to 1 { }", "for i = 0 to i { }", "for to = 0 to 1 { }", "for i = 0 to 1 { } array A;",
		"for i = max(min(0)) to 1 { }", "for i = 0 to min(max(1)) { }", "for i = floor(1, 2) to 1 { }", "for i = 0 to ceil(1, 2) { }", "for i = ceil(1) to 1 { }", "for i = ceil(1, 2, 3) to 1 { }", "for i = ceil(1, -2) to 1 { }", "for i = ceil 1, 2 to 1 { }", "for i = min() to 1 { }", "for i = min(1,) to 1 { }", "for i = min(max()) to 1 { }", "for i = min(1 to 1 { }", "for i = min(min(1)) to 1 { }", "for i = max(max(1)) to 1 { }", "for i = (1) to 1 { }", "for i = <1> to 1 { }", "for i = ceil(ceil(1, 2), 2) to 1 { }", "for i = min 1 to 2 { }",
		"if", "if { : true }", "if { : true } {", "if : true { }", "if { true } { }", "if { } { }", "if { : } { }", "if { : true { }", "param n; if { : true } { }", "param n; if { m : true } { }", "param n; if { n, n : true } { }", "param n; param m; if { m, n : true } { }", "param n; for i = 0 to n { if { i, n : true } { } }", "param n; for i = 0 to n { if { n : true } { } }", "if { i : true } { }", "if { : true } { } else", "if { : true } { } else if { : true } { }", "if { : 1 = 1 and false } { }", "else { }", "if { : true } else { }", "if { : i = 0 } { }", "param n; if { n : n } { }", "param n; if { n : n = 0 and true } { }", "if { -> : true } { }",
		"array S; S = 1; @", "array S; S = 1;\t", "array S;\r\nS = 1;", "# array S;", "array S; S = 1; }", "array é;", "array S; S = 1.0;", "array S; S = 'a';",
		// The form counts more than the limits and the rest.
		"param n; param m; param k; x", "array S; S = 2147483648; S", "param n; param n; ;", "for i = 0 to 1 step 0 {", "array A[1][1][1][1]; A[0] = 1;", "if { : 0 | 1 } { } }",
	)
	if _, e := source.Parse(strings.Repeat("(", api.MaxText)); e != api.ErrForm {
		t.Errorf("parentheses: %d", e)
	}
	if _, e := source.Parse("array S; S = " + strings.Repeat("(", 16000)); e != api.ErrForm {
		t.Errorf("parentheses: %d", e)
	}
}

// deep returns n loops around a text.
func deep(n int, inside string) string {
	text := ""
	for i := range n {
		text += "for x" + string(rune('a'+i)) + " = 0 to 0 { "
	}
	return text + inside + strings.Repeat("}", n)
}

func TestFull(t *testing.T) {
	wrong(t, api.ErrFull,
		strings.Repeat(" ", api.MaxText+1), strings.Repeat("x", api.MaxText+1),
		"param n; param m; param k;", "array A[1][1][1][1];", "array A; array B; array C; array D; array E; array F; array G; array H; array I;", "array A[1048577];", "param n; array A[1048577 n];", "param n; array A[1048576 n + n];",
		"array S; S = 2147483648;", "array S; S = <1048577>;", "array A[1]; A[1048577] = 1;", "array S; S = 1 + 2147483648;", "array S; "+strings.Repeat("S = 1; ", 257), "array S; S = "+strings.Repeat("1 + ", 32)+"1;", "array S; S = "+strings.Repeat("min(1, ", 32)+"1"+strings.Repeat(")", 32)+";",
		"for i = 0 to 1 step 0 { }", "for i = 0 to 1 step 65 { }", "for i = 0 to 1 step 2147483648 { }", "for i = ceil(1, 0) to 1 { }", "for i = ceil(1, 513) to 1 { }", "for i = 0 to floor(1, 513) { }", "for i = 0 to floor(1, 0) { }", "for i = 1048577 to 1 { }", "for i = 0 to -1048577 { }",
		"if { : 0 | 1 } { }", "if { : 513 | 1 } { }", "if { : 1048577 >= 0 } { }", "if { : "+strings.Repeat("true or ", 400)+"true } { }", "if { : "+strings.Repeat("0 = 0 and ", 96)+"0 = 0 } { }",
		"for i = min("+strings.Repeat("0, ", 400)+"0) to 1 { }", "for i = 0 to max("+strings.Repeat("0, ", 400)+"0) { }", "for i = max("+strings.Repeat("0, ", 96)+"0) to 1 { }", "for i = 0 to min("+strings.Repeat("0, ", 96)+"0) { }",
		"array S; "+deep(11, "S = 1;"), deep(12, ""), "param n; param m; "+deep(12, ""),
		// A limit counts more than the rest.
		"param n; param n; param n;", "array A; array A; array B[1048577];", "param n; for n = 0 to 1 step 65 { }",
	)
	for _, text := range []string{
		strings.Repeat(" ", api.MaxText), "param n; param m;", "array A[1][1][1];", "array A; array B; array C; array D; array E; array F; array G; array H;", "array A[1048576];", "array S; S = 2147483647;", "array S; " + strings.Repeat("S = 1; ", 256), "array S; S = " + strings.Repeat("1 + ", 31) + "1;", "for i = 0 to 1 step 64 { }", "for i = ceil(1, 512) to floor(-1048576, 512) { }", "if { : 512 | 1 } { }",
		"if { : " + strings.Repeat("true or ", 399) + "true } { }", "if { : " + strings.Repeat("0 = 0 and ", 95) + "0 = 0 } { }", "for i = min(" + strings.Repeat("0, ", 399) + "0) to 1 { }", "for i = 0 to min(" + strings.Repeat("0, ", 95) + "0) { }", "array S; " + deep(10, "S = 1;"), deep(11, ""), "param n; param m; array A[n]; " + deep(10, "A[n] = <m>;"),
	} {
		if _, e := source.Parse(text); e != api.OK {
			t.Errorf("Parse(%.60q): %d", text, e)
		}
	}
}

func TestArg(t *testing.T) {
	wrong(t, api.ErrArg,
		"param n; param n;", "array A; array A;", "param n; array n;", "param n; for n = 0 to 1 { }", "array A; for A = 0 to 1 { }", "for i = 0 to 1 { for i = 0 to 1 { } }", "for i = max(0, 1) to 1 step 2 { }", "for i = min(0, 1) to 1 step 2 { }", "for i = ceil(1, 2) to 1 step 2 { }",
	)
}

func TestPrintErrors(t *testing.T) {
	for _, p := range []api.Program{{Params: []string{"to"}}, {Body: []api.Stmt{{}}}, {Params: []string{"n", "m", "k"}}} {
		text, e := source.Print(p)
		n, f := source.Line(p, []int{99})
		if text != "" || e != api.ErrArg || n != 0 || f != api.ErrArg {
			t.Errorf("%v: %q, %d, %d, %d", p, text, e, n, f)
		}
	}
	p, _ := source.Parse("array abcdefghijkl; " + strings.Repeat("abcdefghijkl=1+1+1+1+1+1+1+1+1+1+1+1+1+1+1+1+1+1+1+1;", 256))
	if text, e := source.Print(p); text != "" || e != api.ErrFull {
		t.Errorf("a long text: %d, %d", len(text), e)
	}
	if n, e := source.Line(p, []int{255}); n != 256 || e != api.OK {
		t.Errorf("Line of a long text: %d, %d", n, e)
	}
	long := api.Set{Dim: 0, Pieces: [][]api.Cond{}}
	for range 200 {
		long.Pieces = append(long.Pieces, []api.Cond{{Kind: api.Eq, L: l(1000000)}, {Kind: api.Eq, L: l(1000000)}, {Kind: api.Eq, L: l(1000000)}, {Kind: api.Eq, L: l(1000000)}, {Kind: api.Eq, L: l(1000000)}, {Kind: api.Eq, L: l(1000000)}})
	}
	q := api.Program{Arrays: []api.Array{{Name: "S"}}, Body: []api.Stmt{{Kind: api.If, Test: long, Body: []api.Stmt{{Kind: api.Assign}}}, {Kind: api.If, Test: api.Set{Pieces: [][]api.Cond{nil}}}}}
	if text, e := source.Print(q); text != "" || e != api.ErrFull {
		t.Errorf("a long test: %d, %d", len(text), e)
	}
	if n, e := source.Line(q, []int{0, 0, 0}); n != 2 || e != api.OK {
		t.Errorf("Line in a long test: %d, %d", n, e)
	}
	exactly(t)
}

// exactly prints programs with texts of MaxText bytes and of one byte more.
func exactly(t *testing.T) {
	// "array S;\n" has 9 bytes, "S = 1;\n" 7, and each number can have more digits.
	lines := (api.MaxText - 9) / 67
	p := api.Program{Arrays: []api.Array{{Name: "S"}}}
	size := 9
	add := func(e api.Expr, n int) {
		p.Body = append(p.Body, api.Stmt{Kind: api.Assign, Value: e})
		size += n
	}
	wide := func() api.Expr { // 1 + 1 + .. with 16 numbers: 16 + 15 * 3 = 61
		e := api.Expr{K: 1}
		for range 15 {
			e = api.Expr{Op: api.Add, Args: []api.Expr{e, {K: 1}}}
		}
		return e
	}
	for range lines - 1 {
		add(wide(), 67)
	}
	for size+14 <= api.MaxText {
		add(api.Expr{K: 1}, 7)
	}
	k := 1
	for range api.MaxText - size - 7 {
		k *= 10
	}
	add(api.Expr{K: k}, api.MaxText-size)
	text, e := source.Print(p)
	if len(text) != api.MaxText || e != api.OK {
		t.Errorf("Print of MaxText bytes: %d, %d", len(text), e)
	}
	p.Body[0].Value.Args[1].K = 10
	if text, e := source.Print(p); text != "" || e != api.ErrFull {
		t.Errorf("Print of one more: %d, %d", len(text), e)
	}
}

// P11.3.
func TestLine(t *testing.T) {
	p, e := source.Parse("param n; array A[n]; array S; S = 1; for i = 0 to n { S = 2; if { n, i : true } { S = 3; for j = 0 to n { } S = 4; } else { for k = 0 to n { S = 5; } S = 6; } S = 7; } if { n : true } { } else { S = 8; } if { n : true } { S = 9; } S = 10;")
	if e != api.OK {
		t.Fatal(e)
	}
	text, _ := source.Print(p)
	lines := strings.Split(text, "\n")
	for _, x := range []struct {
		path  []int
		start string
	}{
		{[]int{0}, "S = 1;"}, {[]int{1}, "for i"}, {[]int{1, 0, 0}, "S = 2;"}, {[]int{1, 0, 1}, "if { n, i"}, {[]int{1, 0, 1, 0, 0}, "S = 3;"}, {[]int{1, 0, 1, 0, 1}, "for j"}, {[]int{1, 0, 1, 0, 2}, "S = 4;"}, {[]int{1, 0, 1, 1, 0}, "for k"}, {[]int{1, 0, 1, 1, 0, 0, 0}, "S = 5;"}, {[]int{1, 0, 1, 1, 1}, "S = 6;"}, {[]int{1, 0, 2}, "S = 7;"}, {[]int{2}, "if { n :"}, {[]int{2, 1, 0}, "S = 8;"}, {[]int{3}, "if { n :"}, {[]int{3, 0, 0}, "S = 9;"}, {[]int{4}, "S = 10;"},
	} {
		n, e := source.Line(p, x.path)
		if e != api.OK || !strings.HasPrefix(strings.TrimSpace(lines[n]), x.start) {
			t.Errorf("Line(%v) = %d, %d", x.path, n, e)
		}
	}
	if a, _ := source.Line(p, []int{2}); a != 19 {
		t.Errorf("the first test is at %d in %q", a, text)
	}
	for _, path := range [][]int{nil, {5}, {-1}, {1, 0}, {0, 0, 0}, {1, 1, 0}, {3, 1, 0}, {2, 0, 0}, {math.MaxInt}} {
		if n, e := source.Line(p, path); n != 0 || e != api.ErrNone {
			t.Errorf("Line(%v) = %d, %d", path, n, e)
		}
	}
}

// P11.5.
func TestBlanks(t *testing.T) {
	for _, x := range forms() {
		p, e := source.Parse(x[0])
		if e != api.OK {
			continue
		}
		wide := strings.NewReplacer(" ", " \n ", ";", " ; ", "[", "\n[ ", "]", " ]", "{", " {\n", "(", " ( ", ")", " ) ", ",", " , ").Replace(x[1])
		tight := strings.NewReplacer(" = ", "=", " + ", "+", " - ", "-", " * ", "*", ";\n", ";", " {\n", "{", "}\n", "}", ", ", ",", " : ", ":", " >= ", ">=", " | ", "|", "  ", "").Replace(x[1])
		for _, text := range []string{wide, tight} {
			if q, e := source.Parse(text); e != api.OK || !lang.Same(p, q) {
				t.Errorf("Parse(%q): %d", text, e)
			}
		}
	}
}
