package run

import (
	"slices"

	"hallmark/api"
	"hallmark/dom"
	"hallmark/well"
)

// plan is what is known of a function ahead of the run.
type plan struct {
	f     *api.Func
	types []int // of its values
	base  []int // of each block: how many values the blocks over it have
	slot  []int // of each value: where it lies in a frame
}

// planned is the plan of a function of p.
func planned(p *api.Prog, f *api.Func) *plan {
	known := &plan{f: f, types: well.Types(p, *f)}
	above := dom.Above(*f)
	for block, b := range f.Blocks {
		base := 0
		for over := above[block]; over >= 0; over = above[over] {
			base += values(f.Blocks[over])
		}
		known.base = append(known.base, base)
		for at := range values(b) {
			known.slot = append(known.slot, base+at)
		}
	}
	return known
}

// values is how many values a block has.
func values(b api.Block) int {
	return len(b.Params) + len(b.Ops)
}

// frame is a function while it is run. It holds no more values than have come: calls lie in one another as deep as fuel lets them, and most of a function's values may never come.
type frame struct {
	plan   *plan
	caller *frame // what goes on when this one is over; nil of the first one
	block  int
	at     int
	values []api.Val // those of the blocks over this one, and then its own, as far as they have come
}

// begin goes on with a block. No other values can be seen there than those of the blocks over it, and these were passed: they lie in front.
func (f *frame) begin(block int, handed []api.Val) {
	f.block, f.at = block, 0
	base := f.plan.base[block]
	f.values = slices.Grow(f.values[:base], len(handed))[:base+len(handed)]
	copy(f.values[base:], handed)
}

// come ends the step at hand, which comes to v.
func (f *frame) come(v api.Val) {
	f.values = append(f.values, v)
	f.at++
}

// value is a value by its number.
func (f *frame) value(n int) api.Val {
	return f.values[f.plan.slot[n]]
}

// all are values by their numbers, in memory of their own: they may be handed to the block that they lie in.
func (f *frame) all(numbers []int) []api.Val {
	l := make([]api.Val, 0, len(numbers))
	for _, n := range numbers {
		l = append(l, f.value(n))
	}
	return l
}
