package cores

import (
	"headland/api"
	"headland/machine"
	"slices"
	"sync"
)

// item is a single instance, or a gang. Instances are given by their positions in the order of layer 12.
type item struct {
	gang    bool
	single  int
	threads [][]int
}

// execution is a program's instances, in the order of layer 12, with the gangs to which they belong.
type execution struct {
	*machine.Machine
	insts []api.Inst
	items []item
}

// executed follows the program of a machine.
func executed(m *machine.Machine) (*execution, api.Errno) {
	insts, e := m.Insts()
	if e != api.OK {
		return nil, e
	}
	x := &execution{Machine: m, insts: insts}
	count, depth := 0, 0
	// Only loops marked Parallel are counted, so a depth of 1 is inside a shared loop.
	counted := func(f func()) func(mark int) {
		return func(mark int) {
			if mark == api.Parallel {
				f()
			}
		}
	}
	_, e = m.Follow(machine.Course{
		Enter: counted(func() {
			if depth == 0 {
				x.items = append(x.items, item{gang: true})
			}
			depth++
		}),
		Leave: counted(func() { depth-- }),
		Turn: counted(func() {
			if depth == 1 {
				g := &x.items[len(x.items)-1]
				g.threads = append(g.threads, nil)
			}
		}),
		Assign: func(int, api.Stmt, []int) {
			if depth == 0 {
				x.items = append(x.items, item{single: count})
			} else {
				l := x.items[len(x.items)-1].threads
				l[len(l)-1] = append(l[len(l)-1], count)
			}
			count++
		},
	})
	return x, e
}

// core is one of the cores that execute a gang. It answers each question with its next instance.
type core struct {
	ask    chan struct{}
	answer chan int
	left   int
}

// started returns a core that executes instances.
func started(insts []int, running *sync.WaitGroup) *core {
	c := &core{ask: make(chan struct{}), answer: make(chan int), left: len(insts)}
	running.Go(func() {
		next := 0
		for range c.ask {
			c.answer <- insts[next]
			next++
		}
	})
	return c
}

// shared distributes the instances of a gang to the cores, in their order.
func (g item) shared(cores int) [][]int {
	l := make([][]int, cores)
	for q, thread := range g.threads {
		l[q%cores] = append(l[q%cores], thread...)
	}
	return l
}

// turns selects the next core by the choices, which are used again and again.
type turns struct {
	choices []int
	next    int
}

// of returns the position of the core that is selected of n cores.
func (t *turns) of(n int) int {
	if len(t.choices) == 0 {
		return 0
	}
	c := t.choices[t.next] % n
	t.next = (t.next + 1) % len(t.choices)
	if c < 0 {
		c += n
	}
	return c
}

// execute executes a gang on cores, and reports its instances.
func (g item) execute(cores int, t *turns, report func(int)) {
	var running sync.WaitGroup
	var busy []*core
	for _, insts := range g.shared(cores) {
		if len(insts) > 0 {
			busy = append(busy, started(insts, &running))
		}
	}
	for len(busy) > 0 {
		i := t.of(len(busy))
		c := busy[i]
		c.ask <- struct{}{}
		k := <-c.answer
		report(k)
		c.left--
		if c.left == 0 {
			close(c.ask)
			busy = slices.Delete(busy, i, i+1)
		}
	}
	running.Wait()
}

// each reports the instances in the order in which they are executed.
func (x *execution) each(cores int, choices []int, report func(int)) {
	t := &turns{choices: choices}
	for _, i := range x.items {
		if i.gang {
			i.execute(cores, t, report)
		} else {
			report(i.single)
		}
	}
}
