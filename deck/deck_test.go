package deck_test

import (
	"headland/api"
	"headland/cores"
	"headland/deck"
	"headland/dep"
	"headland/driver"
	"headland/lanes"
	"headland/moves"
	"headland/par"
	"headland/run"
	"headland/sched"
	"headland/source"
	"math/rand"
	"slices"
	"strconv"
	"strings"
	"testing"
)

const (
	shift  = "param n;\narray A[n + 1];\nfor i = 0 to n - 1 { A[i] = A[i + 1] + 1; }\n"
	pascal = "param n; array A[n + 1][n + 1]; for i = 1 to n { for j = 1 to n { A[i][j] = A[i - 1][j] + A[i][j - 1]; } }"
	fills  = "param n; array A[n + 1][n + 1]; array B[n + 1]; for i = 0 to n { for j = 0 to n { A[i][j] = B[i] + <j>; } }"
	scalar = "param n; array T[1]; array A[n]; array B[n]; for i = 0 to n - 1 { T[0] = A[i]; B[i] = T[0]; }"
	passed = "param n; array T[n]; array A[n]; array B[n]; for i = 0 to n - 1 { T[i] = A[i]; B[i] = T[i] * 2; }"
	window = "param n; array S[n]; array A[n]; for i = 0 to n - 3 { for j = 0 to 2 { S[i] = S[i] + A[i + j]; } }"
	// Nine rows, so it has no schedule.
	nine = "array Z; array A[2]; array B[2]; array C[2]; array D[2]; for a = 0 to 1 { Z = 1; for b = 0 to 1 { A[b] = 1; for c = 0 to 1 { B[c] = 1; for d = 0 to 1 { C[d] = 1; } } } } D[0] = 1;"
	// Too many variables for its dependences, and too many rows for a schedule.
	deep = "array Z; for a = 0 to 1 { for b = 0 to 1 { for c = 0 to 1 { for d = 0 to 1 { for e = 0 to 1 { for f = 0 to 1 { for g = 0 to 1 { for h = 0 to 1 { for i = 0 to 1 { Z = 1; } } } } } } } } }"
	race = "param n; array S; array A[n]; for i = 0 to n - 1 parallel { S = S + A[i]; }"
)

func play(t *testing.T, program string, commands ...string) string {
	t.Helper()
	out, e := deck.Play(program + "\n---\n" + strings.Join(commands, "\n"))
	if e != api.OK {
		t.Fatalf("Play of %q, %v: %d", program, commands, e)
	}
	return out
}

// job returns the job of a program after some orders.
func job(t *testing.T, program string, orders ...driver.Order) *driver.Job {
	t.Helper()
	p, e := source.Parse(program)
	if e != api.OK {
		t.Fatalf("Parse(%q): %d", program, e)
	}
	j, e := driver.Start(p)
	if e != api.OK {
		t.Fatal(e)
	}
	for _, o := range orders {
		if e := j.Do(o); e != api.OK {
			t.Fatalf("%v of %q: %d", o, program, e)
		}
	}
	return j
}

// sums returns the checksums of a memory.
func sums(memory [][]int) string {
	var words []string
	for _, l := range memory {
		h := 0
		for _, v := range l {
			h = ((31*h+v)%1000003 + 1000003) % 1000003
		}
		words = append(words, strconv.Itoa(h))
	}
	return strings.Join(words, " ") + "\n"
}

// executed returns the output of the command run.
func executed(t *testing.T, p api.Program, seed int, params ...int) string {
	t.Helper()
	m, e := run.Fresh(p, params, seed)
	after, steps, f := run.Run(p, params, m)
	if e+f != api.OK {
		t.Fatal(e, f)
	}
	return "steps " + strconv.Itoa(steps) + "\n" + sums(after)
}

// P33.1: the example.
func TestExample(t *testing.T) {
	for _, end := range []string{"", "\n", "\n\n\n"} {
		out, e := deck.Play(shift + "---\ndeps\nmove 2 0 0 0\nbuild\ntidy\nrun 1 2" + end)
		p, _ := source.Parse(shift)
		want := "0 anti 0 1 0 0\nerror 7\n" + executed(t, p, 1, 2)
		if out != want || e != api.OK || !strings.Contains(out, "steps 4\n") {
			t.Errorf("the example: %q, %d; want %q", out, e, want)
		}
	}
}

// P33.1: what a script is.
func TestScripts(t *testing.T) {
	for _, x := range []struct {
		text, want string
		e          api.Errno
	}{
		{"", "", api.ErrForm}, {shift, "", api.ErrForm}, {shift + "--- \nprint", "", api.ErrForm}, {shift + " ---\nprint", "", api.ErrForm}, {shift + "----\nprint", "", api.ErrForm}, {shift + "---\r\nprint", "", api.ErrForm}, {"---", "", api.OK}, {"---\n", "", api.OK}, {"---\n\n\n", "", api.OK}, {"array A;\n---", "", api.OK}, {"array A;---", "", api.ErrForm},
		{"arra A;\n---\nprint", "", api.ErrForm}, {"array to;\n---\nprint", "", api.ErrForm}, {"array A; array A;\n---\nprint", "", api.ErrArg}, {"array A[1048577];\n---\nprint", "", api.ErrFull}, {"array A;\n---\nprint\n---\naudit", "array A;\nerror 4\n0\n", api.OK}, {"array A;\n---\n\n\nprint\n\naudit\n\n", "array A;\n0\n", api.OK},
		{strings.Repeat("x", api.MaxText+1), "", api.ErrFull}, {strings.Repeat("x", api.MaxText), "", api.ErrForm}, {"---\n" + strings.Repeat("\n", api.MaxText-4), "", api.OK}, {"---\n" + strings.Repeat("\n", api.MaxText-3), "", api.ErrFull},
	} {
		if out, e := deck.Play(x.text); out != x.want || e != x.e {
			t.Errorf("Play(%.80q): %q, %d; want %q, %d", x.text, out, e, x.want, x.e)
		}
	}
}

// P33.1: the output is limited.
func TestOutput(t *testing.T) {
	// Each line has 8 bytes, so 2048 of them are as many as possible.
	lines := strings.Repeat("error 4\n", 2048)
	if out, e := deck.Play("---\n" + strings.Repeat("x\n", 2048)); out != lines || e != api.OK {
		t.Errorf("a full output: %d bytes, %d", len(out), e)
	}
	for _, more := range []string{"x\n", "points { : true }\n", "audit"} {
		if out, e := deck.Play("---\n" + strings.Repeat("x\n", 2048) + more); out != "" || e != api.ErrFull {
			t.Errorf("too much output: %d bytes, %d", len(out), e)
		}
	}
	if out, e := deck.Play("---\n" + strings.Repeat("x\n", 2048) + "tidy"); out != lines || e != api.OK {
		t.Errorf("a full output: %d bytes, %d", len(out), e)
	}
	// The lines of these points have 16380 bytes, and the next one has four.
	full := "---\npoints { i : 0 <= i and i < 3498 }\npoints { i : i = 100 }\n"
	for _, more := range []string{"", "points { i : false }", "tidy"} {
		if out, e := deck.Play(full + more); len(out) != api.MaxText || !strings.HasSuffix(out, "\n3497\n100\n") || e != api.OK {
			t.Errorf("the lines of points and %q: %d bytes, %d", more, len(out), e)
		}
	}
	for _, script := range []string{full + "points { : true }", full + "x", "---\npoints { i : 0 <= i and i < 3499 }", "---\npoints { i : 0 <= i and i < 4096 }"} {
		if out, e := deck.Play(script); out != "" || e != api.ErrFull {
			t.Errorf("%q: %d bytes, %d", script, len(out), e)
		}
	}
}

// P33.1: the commands without orders.
func TestShown(t *testing.T) {
	for _, text := range []string{shift, pascal, fills, window, scalar, "array A; array B;", ""} {
		j := job(t, text)
		p := j.Program()
		printed, _ := source.Print(p)
		if out := play(t, text, "print"); out != printed {
			t.Errorf("print: %q, want %q", out, printed)
		}
		s, _ := j.Sched()
		rows, _ := sched.Text(p, s)
		if out := play(t, text, "rows"); out != rows {
			t.Errorf("rows: %q, want %q", out, rows)
		}
		deps, _ := dep.All(p)
		want := ""
		for i, d := range deps {
			want += strconv.Itoa(i) + " " + []string{"", "flow", "anti", "out"}[d.Kind]
			for _, n := range []int{d.From, d.FromPos, d.To, d.ToPos} {
				want += " " + strconv.Itoa(n)
			}
			want += "\n"
		}
		if out := play(t, text, "deps"); out != want {
			t.Errorf("deps: %q, want %q", out, want)
		}
		free, _ := par.Free(p, deps, s, nil)
		var words []string
		for _, f := range free {
			words = append(words, map[bool]string{true: "free", false: "bound"}[f])
		}
		if out := play(t, text, "free"); out != strings.Join(words, " ")+"\n" {
			t.Errorf("free: %q, want %v", out, words)
		}
	}
	for _, x := range []struct {
		text, command, want string
	}{
		{fills, "free", "free free\n"}, {pascal, "free", "bound bound\n"}, {"", "free", "\n"}, {"array A;", "deps", ""}, {window, "deps", "0 out 0 0 0 0\n1 flow 0 0 0 1\n2 anti 0 1 0 0\n"}, {nine, "rows", "error 9\n"}, {nine, "free", "error 9\n"}, {nine, "choose", "error 9\n"}, {nine, "deps", play(t, nine, "deps")}, {deep, "deps", "error 3\n"}, {deep, "free", "error 9\n"}, {deep, "rows", "error 9\n"}, {deep, "choose", "error 3\n"},
		// The numbers are read first.
		{nine, "rows 1", "error 4\n"}, {nine, "free 1", "error 4\n"}, {deep, "deps 1", "error 4\n"}, {nine, "print 1", "error 4\n"}, {nine, "print :", "error 4\n"},
	} {
		if out := play(t, x.text, x.command); out != x.want {
			t.Errorf("%s of %q: %q, want %q", x.command, x.text, out, x.want)
		}
	}
}

func lin(k int, c ...int) api.Lin { return api.Lin{C: c, K: k} }

// P33.1: the orders do what the driver does.
func TestOrders(t *testing.T) {
	type orders = []driver.Order
	one := func(o driver.Order) orders { return orders{o} }
	for _, x := range []struct {
		text     string
		commands []string
		orders   orders
	}{
		{pascal, []string{"search 0"}, one(driver.Order{Kind: driver.Search})}, {pascal, []string{"search 1"}, one(driver.Order{Kind: driver.Search, Mode: 1})}, {pascal, []string{"move 1 0 1 0"}, one(driver.Order{Kind: driver.Change, Move: moves.Move{Kind: 1, B: 1}})}, {pascal, []string{"move 4 1 0 1"}, one(driver.Order{Kind: driver.Change, Move: moves.Move{Kind: 4, A: 1, B: 0, K: 1}})}, {pascal, []string{"move 3 0 1 -2"}, one(driver.Order{Kind: driver.Change, Move: moves.Move{Kind: 3, A: 0, B: 1, K: -2}})}, {scalar, []string{"move 6 0 0 0 -7 -7"}, one(driver.Order{Kind: driver.Change, Move: moves.Move{Kind: 6, List: []int{-7, -7}}})},
		{pascal, []string{"tiles 3"}, one(driver.Order{Kind: driver.Tiles, K: 3})}, {pascal, []string{"search 1", "choose", "build", "tidy"}, orders{{Kind: driver.Search, Mode: 1}, {Kind: driver.Choose}, {Kind: driver.Build}, {Kind: driver.Tidy}}},
		{window, []string{"strip 2 0 0 0"}, one(driver.Order{Kind: driver.Strip, K: 2, Path: []int{0, 0, 0}})}, {window, []string{"unroll 3 0"}, one(driver.Order{Kind: driver.Unroll, K: 3, Path: []int{0}})}, {window, []string{"peel 0 0 0"}, one(driver.Order{Kind: driver.Peel, Path: []int{0, 0, 0}})},
		{window, []string{"copy 1 0 0 0 : i - 1 : 4"}, one(driver.Order{Kind: driver.Copy, Array: 1, Path: []int{0, 0, 0}, Low: []api.Lin{lin(-1, 0, 1)}, Nums: []int{4}})}, {fills, []string{"copy 0 0 0 0 0 0 : -2+i + 2 ,j - 0 i : 1 1"}, one(driver.Order{Kind: driver.Copy, Path: []int{0, 0, 0, 0, 0}, Low: []api.Lin{lin(0, 0, 1, 0), lin(0, 0, 0, 1)}, Nums: []int{1, 1}})}, {"array S; S = 1;", []string{"copy 0 0 : :"}, one(driver.Order{Kind: driver.Copy, Path: []int{0}})},
		{scalar, []string{"expand 0 : 0 : n"}, one(driver.Order{Kind: driver.Expand, Low: []api.Lin{lin(0, 0)}, Size: []api.Lin{lin(0, 1)}})}, {fills, []string{"expand 0 : 0,-1 : n + 1 , 2*n + 2"}, one(driver.Order{Kind: driver.Expand, Low: []api.Lin{lin(0, 0), lin(-1, 0)}, Size: []api.Lin{lin(1, 1), lin(2, 2)}})}, {"array S; S = 1;", []string{"expand 0 : :"}, one(driver.Order{Kind: driver.Expand})},
		{passed, []string{"fold 0 1"}, one(driver.Order{Kind: driver.Fold, Nums: []int{1}})}, {passed, []string{"drop 2"}, one(driver.Order{Kind: driver.Drop, Array: 2})}, {"array S; array T; S = 1; T = S;", []string{"fold 0"}, one(driver.Order{Kind: driver.Fold})},
	} {
		j := job(t, x.text, x.orders...)
		p := j.Program()
		want, _ := source.Print(p)
		s, ok := j.Sched()
		rows, _ := sched.Text(p, s)
		if !ok {
			rows = "error 9\n"
		}
		want += rows + strconv.Itoa(len(j.Report().Steps)) + "\n"
		if out := play(t, x.text, append(x.commands, "print", "rows", "audit")...); out != want {
			t.Errorf("%v of %q: %q, want %q", x.commands, x.text, out, want)
		}
	}
}

// P33.1: the machines.
func TestMachines(t *testing.T) {
	j := job(t, race)
	p := j.Program()
	m, _ := run.Fresh(p, []int{4}, 7)
	shared, _ := cores.Run(p, []int{4}, m, 2, []int{1, 1, 0, 3})
	plain, _ := cores.Run(p, []int{4}, m, 3, nil)
	for command, want := range map[string]string{
		"run 7 4": executed(t, p, 7, 4), "run -5 0": executed(t, p, -5, 0), "run -2147483648 1": executed(t, p, -1<<31, 1), "cores 7 2 4 : 1 1 0 3": sums(shared), "cores 7 3 4 :": sums(plain), "races 4": "18\n", "races 1": "0\n", "races 0": "0\n", "cores 7 0 4 :": "error 6\n", "cores 7 2 : 1": "error 2\n", "cores 7 2 4 4 : 1": "error 2\n", "run 7": "error 2\n", "run 7 1 1": "error 2\n", "run 7 -1": "error 6\n", "run 7 1001": "error 6\n", "races": "error 2\n", "races 1 1": "error 2\n", "lanes 7 2": "error 2\n", "lanes 7 17 4": "error 6\n",
	} {
		out := play(t, race, command)
		if strings.HasPrefix(command, "races 4") {
			l, e := cores.Races(p, []int{4})
			want = strconv.Itoa(len(l)) + "\n"
			if e != api.OK || len(l) == 0 {
				t.Fatal(e, len(l))
			}
		}
		if out != want {
			t.Errorf("%s: %q, want %q", command, out, want)
		}
	}
	vector := strings.Replace(race, "parallel", "vector", 1)
	for _, w := range []int{1, 3, 16} {
		q := job(t, vector).Program()
		m, _ := run.Fresh(q, []int{9}, 5)
		after, e := lanes.Run(q, []int{9}, m, w)
		if out := play(t, vector, "lanes 5 "+strconv.Itoa(w)+" 9"); out != sums(after) || e != api.OK {
			t.Errorf("lanes with %d: %q, want %q", w, out, sums(after))
		}
	}
	if out := play(t, "", "run 1", "cores 1 1 :", "lanes 1 1", "races"); out != "steps 0\n\n\n\n0\n" {
		t.Errorf("without arrays: %q", out)
	}
}

// P33.1: sets, the audit and its execution.
func TestSets(t *testing.T) {
	for command, want := range map[string]string{
		"points { i, j : 0 <= i and i <= j and j < 2 }": "0 0\n0 1\n1 1\n", "points {i,j:0<=i and i<2and j=i}": "0 0\n1 1\n", "points { i : 1 <= i and i < 4 }": "1\n2\n3\n", "points { i : -2 <= i and i < 1 }": "-2\n-1\n0\n", "points {i:i=3}": "3\n", "points { i, j, k : i = 1 and j = 2 and -1 <= k and k <= 0 }": "1 2 -1\n1 2 0\n",
		// Without points there is no line; a point without coordinates has an empty one.
		"points { i : false }": "", "points { i : 2 i = 1 }": "", "points { i, j : 1 <= i and i <= 0 and j = 0 }": "", "points { : true }": "\n", "points { : false }": "", "points { i : i >= 0 }": "error 6\n", "points { i : 0 <= i and i <= 4096 }": "error 3\n", "points": "error 4\n", "points { i": "error 4\n", "points { i : j = 0 }": "error 4\n", "points { i : i = 2000000 }": "error 3\n", "points  { i : i = 0 }": "error 4\n",
		"empty { i : i >= 0 }": "false\n", "empty { i : 2 i = 1 }": "true\n", "empty { : false }": "true\n", "empty { : true }": "false\n", "empty": "error 4\n", "empty true": "error 4\n", "empty { i, j : 600 i = 601 j + 1 and 0 <= i and i <= 700 }": "error 3\n",
		"audit": "0\n", "audit 1": "error 4\n", "same 1 3": "true\n", "same -1 0": "true\n", "same": "error 4\n", "same 1": "error 2\n", "same 1 1001": "error 6\n", "same 1 1 1": "error 2\n",
	} {
		if out := play(t, pascal, command); out != want {
			t.Errorf("%s: %q, want %q", command, out, want)
		}
	}
	if out := play(t, pascal, "search 1", "choose", "build", "tidy", "audit", "same 5 6", "same 5 64"); out != "2\ntrue\nerror 3\n" {
		t.Errorf("audit and same: %q", out)
	}
}

// P33.1: lines that are not commands.
func TestForm(t *testing.T) {
	for _, line := range []string{
		" ", " print", "print ", "print  ", "Print", "prints", "printx", "print\t", "\tprint", "x", "0", ":", "error 4", "tidy 0", "build 1", "choose x", "audit :", "deps :",
		"search", "search x", "search 1 1", "search 01", "search +1", "search -0", "search 1.0", "search 0x1", "search 1_0", "search 2147483649", "search -2147483649", "search 99999999999999999999", "search -", "search 1 :", "search  1", "search 1 ",
		"move", "move 1 0 1", "move 1 0 1 x", "move 1 0 1 0 x", "move 6 0 0 0 :", "tiles", "tiles 2 2", "tiles 2,", "strip", "strip x", "strip 2 0 x", "unroll", "unroll :", "peel x", "peel 0 -0", "fold", "fold x", "fold 0 x", "drop", "drop 0 0", "drop x",
		"copy", "copy 0", "copy 0 0", "copy 0 0 : i", "copy 0 0 : 0 : 1 : 1", "copy : 0 : 1", "copy x : 0 : 1", "copy 0 x : 0 : 1", "copy 0 0 : x : 1 1", "copy 0 0 : 0, : 1 1", "copy 0 0 : , 0 : 1 1", "copy 0 0 : 0 0 : 1 1", "copy 0 0 : 0, 0 : x", "copy 0 0 : 0, 0 : 1, 1", "copy 0 0: 0, 0 : 1 1", "copy 0 0 :0, 0 : 1 1", "copy 0 0 : 2147483649, 0 : 1 1", "copy 0 0 : 0, i : 1 1", "copy 0 0 : 0,\t0 : 1 1", "copy 0 0 : 0, @ : 1 1", "copy 0 0 : 0; 0 : 1 1", "copy 0 0 : n n : 1 1",
		"expand", "expand 0", "expand 0 : 0", "expand : 0 : 0", "expand 0 0 : 0 : 0", "expand x : 0 : 0", "expand 0 : i, j : 0, 0", "expand 0 : 0, 0 : i, j", "expand 0 : 0, 0 : n : n", "expand 0 : , : n",
		"run", "run x", "run 1 x", "run 1 1 :", "cores", "cores 1 2 1", "cores 1 : 1", "cores 1 2 1 : x", "cores 1 2 1 : 1 : 1", "cores : 1", "cores x 2 1 : 1", "lanes", "lanes 1", "lanes 1 x", "lanes 1 2 1 :", "races x", "races :", "same x", "same 1 x",
	} {
		if out := play(t, pascal, line); out != "error 4\n" {
			t.Errorf("%q: %q", line, out)
		}
	}
	for line, want := range map[string]string{
		"search 2147483648": "error 6\n", "search -2147483648": "error 6\n", "move 0 0 0 0": "error 5\n", "move 2 0 0 0": "error 7\n", "tiles 1": "error 6\n", "strip 2": "error 5\n", "strip 2 7": "error 5\n", "strip 1 0": "error 6\n", "unroll 65 0": "error 6\n", "peel": "error 5\n", "peel 0 0 0 0 0": "error 5\n", "fold 0": "error 2\n", "fold 1 1": "error 6\n", "fold 0 1 1": "error 9\n", "drop 0": "error 9\n", "drop -1": "error 6\n",
		// There is no statement at the path, before the rest is read; the rest is read, before the order is performed.
		"copy 0 9 : x : x": "error 5\n", "copy 0 : x : x": "error 5\n", "copy 7 0 : 0 : 1": "error 6\n", "copy 7 0 : i : 1": "error 4\n", "copy 0 0 : 0 : 1": "error 2\n", "copy 0 0 : 2147483648, 0 : 1 1": "error 1\n", "copy 0 0 : 2147483648 n + 2147483648 n, 0 : 1 1": "error 1\n", "copy 0 0 : 0, 0 : 1 1": "error 7\n", "copy 0 0 : :": "error 2\n",
		"expand 1 : 0 : 0": "error 5\n", "expand 1 : i : 0": "error 4\n", "expand 0 : 0 : 0": "error 2\n", "expand 0 : 0, 0 : n, n": "error 6\n", "expand 0 : 1048577, 0 : n, n": "error 1\n", "expand 0 : :": "error 2\n",
	} {
		if out := play(t, pascal, line, "audit", "print"); !strings.HasPrefix(out, want+"0\nparam n;\n") {
			t.Errorf("%q: %q, want %q", line, out, want)
		}
	}
	// A marked loop comes after the statement, and before everything else of the order.
	for line, want := range map[string]string{"copy 0 9 : 0 : 1": "error 5\n", "copy 9 0 : 0 : 1": "error 9\n", "copy 0 0 : x : 1": "error 4\n", "strip 1 9": "error 9\n", "drop 9": "error 9\n", "fold 9": "error 9\n", "expand 9 : :": "error 9\n"} {
		if out := play(t, race, line); out != want {
			t.Errorf("%q of a marked loop: %q, want %q", line, out, want)
		}
	}
}

// P33.2.
func TestWords(t *testing.T) {
	for _, x := range []struct {
		line string
		want []string
		e    api.Errno
	}{
		{"", nil, api.OK}, {"a", []string{"a"}, api.OK}, {"a b : -1", []string{"a", "b", ":", "-1"}, api.OK}, {"a\tb \r c", []string{"a\tb", "\r", "c"}, api.OK}, {"\xff \x00", []string{"\xff", "\x00"}, api.OK}, {"---", []string{"---"}, api.OK}, {" ", nil, api.ErrForm}, {" a", nil, api.ErrForm}, {"a ", nil, api.ErrForm}, {"a  b", nil, api.ErrForm}, {"a   b", nil, api.ErrForm}, {"\n", nil, api.ErrForm}, {"a\n", nil, api.ErrForm}, {"a\nb", nil, api.ErrForm}, {"\na", nil, api.ErrForm}, {"a \n b", nil, api.ErrForm},
	} {
		if words, e := deck.Words(x.line); !slices.Equal(words, x.want) || e != x.e {
			t.Errorf("Words(%q): %q, %d", x.line, words, e)
		}
	}
	long := strings.Repeat("a ", 99999) + "a"
	if words, e := deck.Words(long); len(words) != 100000 || e != api.OK {
		t.Errorf("a long line: %d, %d", len(words), e)
	}
}

// random returns a command that may succeed.
func random(r *rand.Rand) string {
	n := func(k int) string { return strconv.Itoa(r.Intn(k)) }
	all := []string{
		"print", "rows", "deps", "free", "search " + n(3), "move " + n(8) + " " + n(3) + " " + n(3) + " " + n(3), "tiles " + n(4), "choose", "build", "tidy", "strip " + n(4) + " 0", "unroll " + n(3) + " 0 0 0", "peel 0", "copy " + n(3) + " 0 0 0 : i : " + n(5), "expand 0 : 0 : n", "fold " + n(3) + " " + n(3), "drop " + n(4), "run " + n(9) + " " + n(5), "cores 1 " + n(4) + " " + n(5) + " : 1 0 2", "lanes 1 " + n(9) + " " + n(5), "races " + n(4), "points { i : 0 <= i and i < " + n(9) + " }", "empty { i : i = " + n(9) + " }", "audit", "same " + n(9) + " " + n(6), "same " + n(9) + " " + n(6), "wrong", "",
	}
	return all[r.Intn(len(all))]
}

// P33.3, P33.4, P33.5.
func TestRandom(t *testing.T) {
	r := rand.New(rand.NewSource(33))
	failed, same := 0, 0
	for i := range 60 {
		program := []string{shift, pascal, fills, scalar, passed, window}[i%6]
		var lines []string
		before := ""
		var alone []string
		for range 10 {
			lines = append(lines, random(r))
			out, e := deck.Play(program + "\n---\n" + strings.Join(lines, "\n"))
			if e != api.OK {
				t.Fatalf("Play of %q, %v: %d", program, lines, e)
			}
			if !strings.HasPrefix(out, before) {
				t.Fatalf("%v: %q does not begin with %q", lines, out, before)
			}
			more := out[len(before):]
			before = out
			if strings.Contains(more, "error ") {
				failed++
				continue
			}
			alone = append(alone, lines[len(lines)-1])
			if strings.HasPrefix(lines[len(lines)-1], "same") {
				same++
				if more != "true\n" {
					t.Errorf("%q, %v: %q", program, lines, more)
				}
			}
		}
		var kept []string
		for _, line := range strings.SplitAfter(before, "\n") {
			if !strings.HasPrefix(line, "error ") {
				kept = append(kept, line)
			}
		}
		if out := play(t, program, alone...); out != strings.Join(kept, "") {
			t.Errorf("%q, without errors: %q, want %q", program, out, kept)
		}
	}
	if failed < 50 || same < 10 {
		t.Errorf("%d failed, %d same", failed, same)
	}
}
