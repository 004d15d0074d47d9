package deck

import (
	"headland/api"
	"headland/audit"
	"headland/cores"
	"headland/dep"
	"headland/driver"
	"headland/elim"
	"headland/lanes"
	"headland/lang"
	"headland/moves"
	"headland/par"
	"headland/point"
	"headland/run"
	"headland/sched"
	"headland/settext"
	"headland/source"
	"strconv"
	"strings"
)

// command executes a call, and returns its output.
type command func(d *deck, c call) string

// commands returns the commands by their words.
func commands() map[string]command {
	return map[string]command{
		"print": (*deck).print, "rows": (*deck).rows, "deps": (*deck).deps, "free": (*deck).free,
		"search": ordered(func(c call) driver.Order { return driver.Order{Kind: driver.Search, Mode: c.exactly(1)[0]} }),
		"move": ordered(func(c call) driver.Order {
			n := c.numbers(4)
			return driver.Order{Kind: driver.Change, Move: moves.Move{Kind: n[0], A: n[1], B: n[2], K: n[3], List: n[4:]}}
		}),
		"tiles":  ordered(func(c call) driver.Order { return driver.Order{Kind: driver.Tiles, K: c.exactly(1)[0]} }),
		"choose": bare(driver.Choose), "build": bare(driver.Build), "tidy": bare(driver.Tidy),
		"strip": looped(driver.Strip), "unroll": looped(driver.Unroll),
		"peel": ordered(func(c call) driver.Order { return driver.Order{Kind: driver.Peel, Path: c.numbers(0)} }),
		"copy": (*deck).copy, "expand": (*deck).expand,
		"fold": ordered(func(c call) driver.Order {
			n := c.numbers(1)
			return driver.Order{Kind: driver.Fold, Array: n[0], Nums: n[1:]}
		}),
		"drop": ordered(func(c call) driver.Order { return driver.Order{Kind: driver.Drop, Array: c.exactly(1)[0]} }),
		"run":  (*deck).run, "cores": (*deck).cores, "lanes": (*deck).lanes, "races": (*deck).races,
		"points": (*deck).points, "empty": (*deck).empty, "audit": (*deck).audit, "same": (*deck).same,
	}
}

// ordered returns the command that performs the order of a call.
func ordered(order func(c call) driver.Order) command {
	return func(d *deck, c call) string { return d.do(order(c)) }
}

// bare returns the command for an order without numbers.
func bare(kind int) command {
	return ordered(func(c call) driver.Order {
		c.exactly(0)
		return driver.Order{Kind: kind}
	})
}

// looped returns the command for an order with a number and the path of a loop.
func looped(kind int) command {
	return ordered(func(c call) driver.Order {
		n := c.numbers(1)
		return driver.Order{Kind: kind, K: n[0], Path: n[1:]}
	})
}

// do performs an order.
func (d *deck) do(o driver.Order) string {
	if e := d.job.Do(o); e != api.OK {
		fail(e)
	}
	return ""
}

func (d *deck) print(c call) string {
	c.exactly(0)
	return got(source.Print(d.job.Program()))
}

// schedule returns the schedule, of which there must be one.
func (d *deck) schedule() api.Sched {
	s, ok := d.job.Sched()
	if !ok {
		fail(api.ErrState)
	}
	return s
}

func (d *deck) rows(c call) string {
	c.exactly(0)
	return got(sched.Text(d.job.Program(), d.schedule()))
}

func (d *deck) deps(c call) string {
	c.exactly(0)
	kinds := [...]string{api.Flow: "flow", api.Anti: "anti", api.Out: "out"}
	out := ""
	for i, x := range got(dep.All(d.job.Program())) {
		words := append([]string{strconv.Itoa(i), kinds[x.Kind]}, digits(x.From, x.FromPos, x.To, x.ToPos)...)
		out += line(words...)
	}
	return out
}

func (d *deck) free(c call) string {
	c.exactly(0)
	p, s := d.job.Program(), d.schedule()
	var words []string
	for _, free := range got(par.Free(p, got(dep.All(p)), s, nil)) {
		word := "bound"
		if free {
			word = "free"
		}
		words = append(words, word)
	}
	return line(words...)
}

func (d *deck) copy(c call) string {
	parts := c.parts(3)
	n := numbers(parts[0], 1)
	o := driver.Order{Kind: driver.Copy, Array: n[0], Path: n[1:]}
	names := got(lang.Space(d.job.Program(), o.Path))
	o.Low, o.Nums = expressions(parts[1], names), numbers(parts[2], 0)
	return d.do(o)
}

func (d *deck) expand(c call) string {
	parts := c.parts(3)
	n := numbers(parts[0], 1)
	if len(n) > 1 {
		fail(api.ErrForm)
	}
	names := d.job.Program().Params
	return d.do(driver.Order{Kind: driver.Expand, K: n[0], Low: expressions(parts[1], names), Size: expressions(parts[2], names)})
}

func (d *deck) run(c call) string {
	n := c.numbers(1)
	p := d.job.Program()
	after, steps, e := run.Run(p, n[1:], got(run.Fresh(p, n[1:], n[0])))
	return line("steps", strconv.Itoa(steps)) + checksums(got(after, e))
}

func (d *deck) cores(c call) string {
	parts := c.parts(2)
	n, choices := numbers(parts[0], 2), numbers(parts[1], 0)
	p, params := d.job.Program(), n[2:]
	return checksums(got(cores.Run(p, params, got(run.Fresh(p, params, n[0])), n[1], choices)))
}

func (d *deck) lanes(c call) string {
	n := c.numbers(2)
	p, params := d.job.Program(), n[2:]
	return checksums(got(lanes.Run(p, params, got(run.Fresh(p, params, n[0])), n[1])))
}

func (d *deck) races(c call) string {
	n := c.numbers(0)
	return line(digits(len(got(cores.Races(d.job.Program(), n))))...)
}

// parsed returns the set that a call is.
func parsed(c call) api.Set {
	_, s, e := settext.Parse(c.rest)
	return got(s, e)
}

func (d *deck) points(c call) string {
	var lines []string
	for _, x := range got(point.Points(parsed(c))) {
		lines = append(lines, line(digits(x...)...))
	}
	return strings.Join(lines, "")
}

func (d *deck) empty(c call) string {
	return line(strconv.FormatBool(got(elim.Empty(parsed(c)))))
}

func (d *deck) audit(c call) string {
	c.exactly(0)
	return line(digits(got(audit.Check(d.job.Report())))...)
}

func (d *deck) same(c call) string {
	n := c.numbers(1)
	return line(strconv.FormatBool(got(audit.Play(d.job.Report(), n[1:], n[0]))))
}
