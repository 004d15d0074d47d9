package settext_test

import (
	"headland/api"
	"headland/settext"
	"math/rand"
	"slices"
	"strings"
	"testing"
)

const most = api.MaxCoef

func ge(k int, c ...int) api.Cond { return api.Cond{Kind: api.Ge, L: api.Lin{C: c, K: k}} }
func eq(k int, c ...int) api.Cond { return api.Cond{Kind: api.Eq, L: api.Lin{C: c, K: k}} }
func div(m, k int, c ...int) api.Cond {
	return api.Cond{Kind: api.Div, M: m, L: api.Lin{C: c, K: k}}
}

type piece = []api.Cond

func of(dim int, pieces ...piece) api.Set { return api.Set{Dim: dim, Pieces: pieces} }

func samePieces(a, b []piece) bool {
	return slices.EqualFunc(a, b, func(p, q piece) bool {
		return slices.EqualFunc(p, q, func(a, b api.Cond) bool {
			return a.Kind == b.Kind && a.M == b.M && a.L.K == b.L.K && slices.Equal(a.L.C, b.L.C)
		})
	})
}

func same(a, b api.Set) bool { return a.Dim == b.Dim && samePieces(a.Pieces, b.Pieces) }

func names(s string) []string {
	if s == "" {
		return nil
	}
	return strings.Split(s, " ")
}

// P8.1, P8.2.
func TestParse(t *testing.T) {
	for _, x := range []struct {
		text, names string
		s           api.Set
		printed     string
	}{
		{"{ i, j : 0 <= i and i < 4 and 2 | i + j }", "i j", of(2, piece{ge(0, 1, 0), ge(3, -1, 0), div(2, 0, 1, 1)}), "{ i, j : i >= 0 and -i + 3 >= 0 and 2 | i + j }"},
		{"{i}", "i", of(1, nil), "{ i : true }"}, {"{}", "", of(0, nil), "{ : true }"}, {"{:false}", "", of(0), "{ : false }"}, {"{i:false or false}", "i", of(1), "{ i : false }"}, {"{:true or false or true}", "", of(0, nil, nil), "{ : true or true }"},
		{"{i:i=0 or i=0}", "i", of(1, piece{eq(0, 1)}, piece{eq(0, 1)}), "{ i : i = 0 or i = 0 }"},
		{"{ i : 3 i >= 2 i - 1 }", "i", of(1, piece{ge(1, 1)}), "{ i : i + 1 >= 0 }"}, {"{ i : i + i + 2*i - 1 > 5 - i - 2 }", "i", of(1, piece{ge(-5, 5)}), "{ i : 5 i - 5 >= 0 }"},
		{"{ a, b : a > b and a < b and a >= b and a <= b and a = b }", "a b", of(2, piece{ge(-1, 1, -1), ge(-1, -1, 1), ge(0, 1, -1), ge(0, -1, 1), eq(0, 1, -1)}), "{ a, b : a - b - 1 >= 0 and -a + b - 1 >= 0 and a - b >= 0 and -a + b >= 0 and a - b = 0 }"},
		{"{ : 0 >= 0 and 1 = 2 and 3 | 4 }", "", of(0, piece{ge(0), eq(-1), div(3, 4)}), "{ : 0 >= 0 and -1 = 0 and 3 | 4 }"},
		{"{ i : -i >= -7 and - 2 i = -0 and 512|-1048576 i - 1048576 }", "i", of(1, piece{ge(7, -1), eq(0, -2), div(512, -most, -most)}), "{ i : -i + 7 >= 0 and -2 i = 0 and 512 | -1048576 i - 1048576 }"},
		{"{ i : 007 * i >= 0000000000000000000000001 }", "i", of(1, piece{ge(-1, 7)}), "{ i : 7 i - 1 >= 0 }"}, {"{ i : 2i=4 }", "i", of(1, piece{eq(-4, 2)}), "{ i : 2 i - 4 = 0 }"}, {"{ i : 1 i = i }", "i", of(1, piece{eq(0, 0)}), "{ i : 0 = 0 }"}, {"{ i : 1 | i }", "i", of(1, piece{div(1, 0, 1)}), "{ i : 1 | i }"},
		{"{ i : 2147483648 = 2147483647 + i }", "i", of(1, piece{eq(1, -1)}), "{ i : -i + 1 = 0 }"}, {"{ i : 2000000 i - 1000000 i = 0 }", "i", of(1, piece{eq(0, 1000000)}), "{ i : 1000000 i = 0 }"},
		{"{ ab12, Z9, andy : ab12 = Z9 - andy }", "ab12 Z9 andy", of(3, piece{eq(0, 1, -1, 1)}), "{ ab12, Z9, andy : ab12 - Z9 + andy = 0 }"}, {"{ abcdefghijkl : abcdefghijkl = 0 }", "abcdefghijkl", of(1, piece{eq(0, 1)}), "{ abcdefghijkl : abcdefghijkl = 0 }"},
		{"\n\n{\ni\n,\nj\n:\n2\n*\ni\n>=\nj\nand\n2\n|\nj\n}\n\n", "i j", of(2, piece{ge(0, 2, -1), div(2, 0, 0, 1)}), "{ i, j : 2 i - j >= 0 and 2 | j }"},
		{"{ a,b,c,d,e,f,g,h,i,j,k,l : l = 0 }", "a b c d e f g h i j k l", of(12, piece{eq(0, 0, 0, 0, 0, 0, 0, 0, 0, 0, 0, 0, 1)}), "{ a, b, c, d, e, f, g, h, i, j, k, l : l = 0 }"},
	} {
		n, s, e := settext.Parse(x.text)
		if !slices.Equal(n, names(x.names)) || !same(s, x.s) || e != api.OK {
			t.Errorf("Parse(%q) = %v, %v, %d", x.text, n, s, e)
		}
		if text, e := settext.Print(names(x.names), x.s); text != x.printed || e != api.OK {
			t.Errorf("Print(%v) = %q, %d; want %q", x.s, text, e, x.printed)
		}
		if n, s, e := settext.Parse(x.printed); !slices.Equal(n, names(x.names)) || !same(s, x.s) || e != api.OK {
			t.Errorf("Parse(%q) = %v, %v, %d", x.printed, n, s, e)
		}
	}
}

func TestParseErrors(t *testing.T) {
	for _, text := range []string{
		"", "{", "}", "{ i", "{ i :", "{ i : }", "{ i, : true }", "{ , i : true }", "{ i j : true }", "{ i : i }", "{ i : i >= }", "{ i : >= 0 }", "{ i : i = 0 and }", "{ i : i = 0 or }", "{ i : and i = 0 }", "{ i : i = 0 i = 0 }", "{ i : i = 0 = 0 }", "{ i : i == 0 }", "{ i : i => 0 }", "{ i : i -> 0 }", "{ i : i != 0 }",
		"{ i : true and true }", "{ i : true and i = 0 }", "{ i : i = 0 and true }", "{ i : false and i = 0 }", "{ i : i = 0 and false }", "{ i : true false }", "{ i : i = 0 } }", "{ i : i = 0 } i", "{ i : i = 0 };", "i : i = 0", "{ i : (i = 0) }", "{ i : 2 * 3 = i }", "{ i : i * 2 = 0 }", "{ i : 2 * * i = 0 }", "{ i : * i = 0 }", "{ i : +i = 0 }", "{ i : --i = 0 }", "{ i : i - -1 = 0 }", "{ i : i + = 0 }", "{ i : -2 | i }", "{ i : i | 2 }", "{ i : 2 | i = 0 }", "{ i : 2 | }", "{ i : 2 i | 4 }", "{ i : 1 + 1 | i }",
		"{ i : j = 0 }", "{ : i = 0 }", "{ i, i : true }", "{ i, j, i : i = 0 }", "{ and : true }", "{ i : min = 0 }", "{ vector : true }", "{ true : true }", "{ abcdefghijklm : true }", "{ i : abcdefghijklm = 0 }", "{ 1i : true }", "{ i_j : true }", "{ i : i\t= 0 }", "{ i : i = 0\r }", "{ é : true }", "{ i : i = 0 \x00}",
		"{ i : i = 2147483649 }", "{ i : 99999999999999999999999999 = i }", "{ i : 2147483649 | i }", "{ i : 1.5 = i }", "{ i -> j : true }", "{ -> : true }", "{ i : i = 0 } -> ", "{ [ : true }", "{ i : 2 ; }",
		// A limit does not matter where the form is wrong.
		"{ i, i : 513 | i }", "{ i : 2000000 i = j }", "{ a,b,c,d,e,f,g,h,i,j,k,l,m : z = 0 }", "{ i : 0 | i", "{ a,b,c,d,e,f,g,h,i,j,k,l,m : true ",
	} {
		if n, s, e := settext.Parse(text); len(n) != 0 || !same(s, api.Set{}) || e != api.ErrForm {
			t.Errorf("Parse(%q) = %v, %v, %d", text, n, s, e)
		}
	}
	for _, text := range []string{
		"{ i : 0 | i }", "{ i : 513 | i }", "{ i : 2147483648 | i }", "{ i : 1048577 i = 0 }", "{ i : i = 1048577 }", "{ i : 1048576 i + i = 0 }", "{ i : i > 1048576 }", "{ i : 1048576 i = - 1 i }", "{ a,b,c,d,e,f,g,h,i,j,k,l,m : true }", "{ i : 2147483648 i = 0 }",
		"{ i : " + strings.Repeat("true or ", 400) + "true }", "{ i : " + strings.Repeat("i = 0 and ", 96) + "i = 0 }", "{ i : " + strings.Repeat(" ", api.MaxText) + "i = 0 }", strings.Repeat("x", api.MaxText+1),
	} {
		if n, s, e := settext.Parse(text); len(n) != 0 || !same(s, api.Set{}) || e != api.ErrFull {
			t.Errorf("Parse(%.50q) = %v, %v, %d", text, n, s, e)
		}
	}
	for _, text := range []string{"{ i : " + strings.Repeat("true or ", 399) + "true or false }", "{ i : " + strings.Repeat("i = 0 and ", 95) + "i = 0 }", "{" + strings.Repeat(" ", api.MaxText-2) + "}", "{ i : i >= 1048576 and 1048577 i = i }", "{ i : " + strings.Repeat("2147483648 - ", 600) + strings.Repeat("2147483648 + ", 600) + "i = 0 }"} {
		if _, _, e := settext.Parse(text); e != api.OK {
			t.Errorf("Parse(%.50q): %d", text, e)
		}
	}
	if _, _, e := settext.Parse(strings.Repeat("x", api.MaxText)); e != api.ErrForm {
		t.Errorf("Parse of a long name: %d", e)
	}
}

func TestPrintErrors(t *testing.T) {
	long := of(1)
	for range 400 {
		long.Pieces = append(long.Pieces, piece{eq(-1000000, 1000000), eq(-1000000, 1000000), eq(-1000000, 1000000)})
	}
	for _, x := range []struct {
		names []string
		s     api.Set
		e     api.Errno
	}{
		{nil, of(13), api.ErrArg}, {nil, of(1, piece{ge(0)}), api.ErrArg}, {nil, of(1, piece{{Kind: 7, L: api.Lin{C: []int{1}}}}), api.ErrArg}, {nil, of(1), api.ErrDim}, {[]string{"i", "j"}, of(1), api.ErrDim}, {[]string{"", ""}, long, api.ErrDim},
		{[]string{""}, long, api.ErrForm}, {[]string{"i", "i"}, of(2), api.ErrForm}, {[]string{"i", "or"}, of(2), api.ErrForm}, {[]string{"i", "2j"}, of(2), api.ErrForm}, {[]string{"abcdefghijklm"}, of(1), api.ErrForm}, {[]string{"i "}, of(1), api.ErrForm}, {[]string{"i"}, long, api.ErrFull},
	} {
		if text, e := settext.Print(x.names, x.s); text != "" || e != x.e {
			t.Errorf("Print(%v, ..) = %q, %d, want %d", x.names, text, e, x.e)
		}
		r := api.Rel{In: 0, Out: x.s.Dim, Pieces: x.s.Pieces}
		if text, e := settext.PrintRel(x.names, r); text != "" || e != x.e {
			t.Errorf("PrintRel(%v, ..) = %q, %d, want %d", x.names, text, e, x.e)
		}
	}
	if text, e := settext.PrintRel(nil, api.Rel{In: -1, Out: 1}); text != "" || e != api.ErrArg {
		t.Errorf("PrintRel = %q, %d", text, e)
	}
	exactly(t)
}

// exactly prints a set with a text of MaxText bytes, and then with one byte more.
func exactly(t *testing.T) {
	s := of(1)
	for range 397 {
		s.Pieces = append(s.Pieces, piece{eq(0, 1), eq(0, 1), eq(0, 1), eq(0, 1)})
	}
	last := piece{eq(0, 1), eq(0, 1), eq(0, 1)}
	s.Pieces = append(s.Pieces, last)
	text, e := settext.Print([]string{"i"}, s)
	for e == api.OK && len(text) <= api.MaxText-20 {
		last = append(last, eq(0, 1))
		s.Pieces[397] = last
		text, e = settext.Print([]string{"i"}, s)
	}
	// From 10 to 19 bytes are missing; a constant of k digits, with its sign and blanks, has k + 3.
	power := func(k int) int {
		n := 1
		for range k - 1 {
			n *= 10
		}
		return n
	}
	missing := api.MaxText - len(text)
	last[0].L.K = power(2)
	last[1].L.K = power(min(missing-5-3, 6))
	if missing > 14 {
		last[2].L.K = power(missing - 14 - 3)
		if missing < 18 {
			last[0].L.K, last[1].L.K, last[2].L.K = power(1), power(1), power(missing-8-3)
		}
	}
	text, e = settext.Print([]string{"i"}, s)
	if len(text) != api.MaxText || e != api.OK {
		t.Errorf("Print of MaxText bytes: %d, %d", len(text), e)
	}
	last[0].L.K *= 10
	if text, e := settext.Print([]string{"i"}, s); text != "" || e != api.ErrFull {
		t.Errorf("Print of one more: %d, %d", len(text), e)
	}
}

// P8.3.
func TestRel(t *testing.T) {
	for _, x := range []struct {
		text, names string
		in          int
		pieces      []piece
		printed     string
	}{
		{"{ i -> j : j = 2*i or j = 2 i + 1 }", "i j", 1, []piece{{eq(0, -2, 1)}, {eq(-1, -2, 1)}}, "{ i -> j : -2 i + j = 0 or -2 i + j - 1 = 0 }"},
		{"{->}", "", 0, []piece{nil}, "{ -> : true }"}, {"{i->:false}", "i", 1, nil, "{ i -> : false }"}, {"{ -> j : j > 0 }", "j", 0, []piece{{ge(-1, 1)}}, "{ -> j : j - 1 >= 0 }"}, {"{a,b->c,d}", "a b c d", 2, []piece{nil}, "{ a, b -> c, d : true }"},
	} {
		n, r, e := settext.ParseRel(x.text)
		if !slices.Equal(n, names(x.names)) || r.In != x.in || r.In+r.Out != len(n) || !samePieces(r.Pieces, x.pieces) || e != api.OK {
			t.Errorf("ParseRel(%q) = %v, %v, %d", x.text, n, r, e)
		}
		if text, e := settext.PrintRel(n, r); text != x.printed || e != api.OK {
			t.Errorf("PrintRel(%v) = %q, %d", r, text, e)
		}
	}
	for text, want := range map[string]api.Errno{
		"{ i : true }": api.ErrForm, "{ i -> i : true }": api.ErrForm, "{ i -> j -> k : true }": api.ErrForm, "{ i, i -> j }": api.ErrForm, "{ i - > j }": api.ErrForm, "{ i -> j : k = 0 }": api.ErrForm, "": api.ErrForm, "{ i -> j : true": api.ErrForm, "{ i -> j : true } x": api.ErrForm,
		"{ a,b,c,d,e,f,g -> h,i,j,k,l,m }": api.ErrFull, "{ i -> j : 600 | j }": api.ErrFull, strings.Repeat(" ", api.MaxText) + "{->}": api.ErrFull, "{ a,b,c,d,e,f,g -> h,i,j,k,l,a }": api.ErrForm,
	} {
		if n, r, e := settext.ParseRel(text); len(n) != 0 || r.In != 0 || r.Out != 0 || len(r.Pieces) != 0 || e != want {
			t.Errorf("ParseRel(%.50q) = %v, %v, %d", text, n, r, e)
		}
	}
}

// P8.4.
func TestName(t *testing.T) {
	for _, s := range []string{"a", "A", "z", "Z", "i1", "i0", "i9", "abcdefghijkl", "And", "an", "ands", "tO", "a0000", "paramx", "floor1"} {
		if !settext.Name(s) {
			t.Errorf("%q is no name", s)
		}
	}
	for _, s := range []string{"", "1", "1a", "a_", "_a", "a b", " a", "a ", "é", "aé", "abcdefghijklm", "a-", "a\n", "and", "or", "true", "false", "for", "to", "step", "if", "else", "min", "max", "floor", "ceil", "array", "param", "parallel", "vector", "@", "[", "`", "{", "a/", "a:", strings.Repeat("a", 1<<16)} {
		if settext.Name(s) {
			t.Errorf("%q is a name", s)
		}
	}
}

// P8.5.
func TestLin(t *testing.T) {
	l := func(k int, c ...int) api.Lin { return api.Lin{C: c, K: k} }
	for _, x := range []struct {
		names string
		l     api.Lin
		text  string
		e     api.Errno
	}{
		{"i j", l(3, 2, -1), "2 i - j + 3", api.OK}, {"i j", l(0, 0, 0), "0", api.OK}, {"", l(0), "0", api.OK}, {"", l(-7), "-7", api.OK}, {"", l(1), "1", api.OK}, {"i j", l(-1, 0, -1), "-j - 1", api.OK}, {"i j", l(0, -2, 1), "-2 i + j", api.OK}, {"i j", l(-12, 1, 10), "i + 10 j - 12", api.OK}, {"i", l(-most, -most), "-1048576 i - 1048576", api.OK},
		{"i", l(1), "", api.ErrDim}, {"", l(1, 1), "", api.ErrDim}, {"i", l(most + 1), "", api.ErrArg}, {"i i", l(0, 1, 1), "", api.ErrForm}, {"to", l(0, 1), "", api.ErrForm}, {"a a", l(0, make([]int, 13)...), "", api.ErrArg},
	} {
		if text, e := settext.Lin(names(x.names), x.l); text != x.text || e != x.e {
			t.Errorf("Lin(%q, %v) = %q, %d", x.names, x.l, text, e)
		}
	}
}

// P8.6, P8.7.
func TestRoundTrip(t *testing.T) {
	r := rand.New(rand.NewSource(12))
	size := func() int {
		return []int{0, 1, -1, 2, -7, most, -most, r.Intn(2*most) - most}[r.Intn(8)]
	}
	all := []string{"i", "j2", "Long", "abcdefghijkl", "x"}
	for range 300 {
		n := r.Intn(6)
		s := of(n)
		for range r.Intn(4) {
			p := piece{}
			for range r.Intn(5) {
				l := make([]int, n)
				for i := range l {
					l[i] = size()
				}
				c := ge(size(), l...)
				switch r.Intn(3) {
				case 0:
					c.Kind = api.Eq
				case 1:
					c.Kind, c.M = api.Div, r.Intn(512)+1
				}
				p = append(p, c)
			}
			s.Pieces = append(s.Pieces, p)
		}
		text, e := settext.Print(all[:n], s)
		if e != api.OK {
			t.Fatalf("Print(%v): %d", s, e)
		}
		if m, q, e := settext.Parse(text); !slices.Equal(m, all[:n]) || !same(q, s) || e != api.OK {
			t.Fatalf("Parse(%q) = %v, %v, %d", text, m, q, e)
		}
		// More blanks, and no blanks except between names and numbers.
		wide := strings.NewReplacer(" ", "\n  ", "{", "  {\n", "|", " | ", ",", "\n,\n").Replace(text)
		if m, q, e := settext.Parse(wide); !slices.Equal(m, all[:n]) || !same(q, s) || e != api.OK {
			t.Fatalf("Parse(%q) = %v, %v, %d", wide, m, q, e)
		}
		tight := strings.NewReplacer(" >= ", ">=", " = ", "=", " : ", ":", " + ", "+", " - ", "-", " | ", "|", ", ", ",", "{ ", "{", " }", "}").Replace(text)
		if m, q, e := settext.Parse(tight); !slices.Equal(m, all[:n]) || !same(q, s) || e != api.OK {
			t.Fatalf("Parse(%q) = %v, %v, %d", tight, m, q, e)
		}
		if in := r.Intn(n + 1); true {
			text, e := settext.PrintRel(all[:n], api.Rel{In: in, Out: n - in, Pieces: s.Pieces})
			m, q, f := settext.ParseRel(text)
			if e != api.OK || f != api.OK || !slices.Equal(m, all[:n]) || q.In != in || q.Out != n-in || !samePieces(q.Pieces, s.Pieces) {
				t.Fatalf("ParseRel(%q) = %v, %v, %d", text, m, q, f)
			}
		}
	}
}

// The parts of a result share no memory.
func TestMemory(t *testing.T) {
	_, s, _ := settext.Parse("{ i, j : i = 0 and j = 0 or i = 0 }")
	s.Pieces[0][0].L.C[0] = 99
	s.Pieces[0][0].L.C = append(s.Pieces[0][0].L.C, 7)
	s.Pieces[0] = append(s.Pieces[0], ge(5, 0, 0))
	if !samePieces(s.Pieces[1:], []piece{{eq(0, 1, 0)}}) || s.Pieces[0][1].L.C[1] != 1 {
		t.Errorf("%v", s)
	}
}
