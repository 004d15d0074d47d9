package lanes

import (
	"headland/api"
	"headland/machine"
	"math/bits"
	"slices"
)

// group is what one assignment executes together: the points of its active lanes, with the parameters. The blocks are counted from 1; outside vector loops the block is 0.
type group struct {
	stmt   api.Stmt
	number int
	block  int
	points [][]int
}

// mask says which lanes are active.
type mask uint32

// each calls a function for each active lane, in order.
func (m mask) each(f func(lane int)) {
	for m != 0 {
		lane := bits.TrailingZeros32(uint32(m))
		f(lane)
		m &^= 1 << lane
	}
}

// where returns the active lanes for which something holds.
func (m mask) where(holds func(lane int) bool) mask {
	var r mask
	m.each(func(lane int) {
		if holds(lane) {
			r |= 1 << lane
		}
	})
	return r
}

// vector executes a program whose steps and bounds are known to be in order.
type vector struct {
	width  int
	blocks int
	block  int // the current one
	report func(group)
}

// list executes statements by the active lanes, each with its own point.
func (v *vector) list(l []machine.Node, points [][]int, active mask) {
	for _, n := range l {
		switch n.Kind {
		case api.For:
			if v.block == 0 && n.Mark == api.Vector {
				v.loop(n, points[0])
			} else {
				v.together(n, points, active)
			}
		case api.If:
			holds := active.where(func(lane int) bool { return machine.Holds(n.Test, points[lane]) })
			if holds != 0 {
				v.list(n.Then, points, holds)
			}
			if active != holds {
				v.list(n.Else, points, active&^holds)
			}
		default:
			g := group{stmt: n.Stmt, number: n.First, block: v.block}
			active.each(func(lane int) { g.points = append(g.points, points[lane]) })
			v.report(g)
		}
	}
}

// together executes a loop of which each active lane has its own bounds.
func (v *vector) together(n machine.Node, points [][]int, active mask) {
	next, high := make([]int, len(points)), make([]int, len(points))
	active.each(func(lane int) { next[lane], high[lane] = machine.Bounds(n.Stmt, points[lane]) })
	for {
		active = active.where(func(lane int) bool { return next[lane] <= high[lane] })
		if active == 0 {
			return
		}
		inside := make([][]int, len(points))
		active.each(func(lane int) {
			inside[lane] = append(slices.Clone(points[lane]), next[lane])
			next[lane] += n.Step
		})
		v.list(n.Then, inside, active)
	}
}

// loop executes a vector loop, block by block.
func (v *vector) loop(n machine.Node, point []int) {
	low, high := machine.Bounds(n.Stmt, point)
	for low <= high {
		var points [][]int
		for len(points) < v.width && low <= high {
			points = append(points, append(slices.Clone(point), low))
			low += n.Step
		}
		v.blocks++
		v.block = v.blocks
		v.list(n.Then, points, 1<<len(points)-1)
		v.block = 0
	}
}

// follow reports the groups of a machine's program, in the order in which they are executed.
func follow(m *machine.Machine, width int, report func(group)) {
	v := &vector{width: width, report: report}
	v.list(m.Body, [][]int{slices.Clone(m.Params)}, 1)
}
