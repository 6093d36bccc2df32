package run

import (
	"hallmark/api"
	"hallmark/heap"
)

// over is how a run ends: what it is given up with, wherever it stands.
type over struct {
	end  int
	code int64
}

// machine is a run. Calls in one another are a chain of frames: they lie deeper than Go's own can.
type machine struct {
	p       *api.Prog
	plans   []*plan
	top     *frame // the function that is run now
	mem     *heap.Mem
	classes map[int]int // of the objects that have one, also of those that are gone
	fuel    int         // how many steps may be paid in all
	steps   int         // how many were paid
	trace   []string
}

// built is a run of p that has not begun.
func built(p *api.Prog, limit, fuel int) *machine {
	m := &machine{
		p:       p,
		mem:     heap.New(limit),
		classes: map[int]int{},
		fuel:    min(fuel, api.MaxFuel),
	}
	for n := range p.Funcs {
		m.plans = append(m.plans, planned(p, &p.Funcs[n]))
	}
	return m
}

// play runs function 0. It goes on until the run is given up: so all runs end.
func (m *machine) play(in []int64) (how over) {
	defer func() {
		how = recover().(over)
	}()
	var handed []api.Val
	for _, n := range in {
		handed = append(handed, api.Val{N: n})
	}
	m.enter(0, handed)
	for {
		m.next()
	}
}

// next does one step, or one end, of the function that is run now.
func (m *machine) next() {
	m.pay()
	b := &m.top.plan.f.Blocks[m.top.block]
	if m.top.at < len(b.Ops) {
		m.step(&b.Ops[m.top.at])
	} else {
		m.end(&b.End)
	}
}

// pay takes one of fuel.
func (m *machine) pay() {
	if m.steps >= m.fuel {
		panic(over{end: api.NoFuel})
	}
	m.steps++
}

// end does the end of a block.
func (m *machine) end(e *api.End) {
	f := m.top
	switch e.K {
	case api.EndJump:
		f.begin(e.To, f.all(e.L))
	case api.EndBranch:
		if f.value(e.A).N != 0 {
			f.begin(e.To, f.all(e.L))
		} else {
			f.begin(e.Else, f.all(e.M))
		}
	case api.EndRet:
		m.leave(e)
	case api.EndStop:
		panic(over{api.Stopped, f.value(e.A).N})
	}
}

// call begins a function, in a frame of its own in memory, too.
func (m *machine) call(fun int, handed []api.Val) {
	m.mem.Enter()
	m.enter(fun, handed)
}

// enter begins a function.
func (m *machine) enter(fun int, handed []api.Val) {
	m.top = &frame{plan: m.plans[fun], caller: m.top}
	m.top.begin(0, handed)
}

// leave ends a function with what it comes to: its caller's step comes to that. Of one that tells nothing the end names no value.
func (m *machine) leave(e *api.End) {
	f := m.top
	var v api.Val
	if f.plan.f.Ret != api.TNone {
		v = f.value(e.A)
	}
	if f.caller == nil {
		panic(over{api.Done, v.N})
	}
	m.mem.Leave()
	m.top = f.caller
	m.top.come(v)
}
