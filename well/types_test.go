package well_test

import (
	"math"
	"slices"
	"testing"

	"hallmark/api"
	"hallmark/well"
)

const none = api.TNone

// P9.1: Types, as worked out by hand.
func TestTypesByHand(t *testing.T) {
	for _, x := range []struct {
		name string
		f    api.Func
		want []int
	}{
		{"nothing", api.Func{}, nil},
		{"no values", fun(api.TInt, block(nil, jump(1)), block(nil, ret(0))), nil},
		{"the chapter's example", seven(), to(0)},
		{"a parameter, and steps of it", fun(api.TInt, block(to(0), ret(1), add(0, 0), less(0, 1))), to(0, 0, 1)},
		{"parameters of types that are none", fun(0, block(to(99, -1, -2, math.MaxInt, math.MinInt, 6), ret(0))), to(99, -1, -2, math.MaxInt, math.MinInt, 6)},
		{"steps of parameters of types that are none", fun(0, block(to(99, -2), ret(0), tell(0), add(0, 0), long(1), num(1))), to(99, -2, none, none, none, 0)},
		{"steps that come to nothing", fun(0, block(to(0, 3, 4), ret(0), tell(0), api.Op{K: api.OpPut, A: 1, B: 0, C: 0}, api.Op{K: api.OpEnter, A: 2, B: 0, C: 0})), to(0, 3, 4, none, none, none)},
		{"steps that can't be", fun(0, block(to(0, 1), ret(0), add(0, 1), bit(2), api.Op{K: 26}, api.Op{K: -1}, num(1))), to(0, 1, none, none, none, none, 0)},
		{"what is of a step that can't be", fun(0, block(nil, ret(0), bit(2), api.Op{K: api.OpNot, A: 0}, num(4), add(2, 1), add(2, 2))), to(none, none, 0, none, 0)},
		{"what is of a step that comes to nothing", fun(0, block(to(0), ret(0), tell(0), tell(1), add(0, 1))), to(0, none, none, none)},
		{"values by numbers that are none", fun(0, block(nil, ret(0), num(1), add(0, -1), add(0, 5), add(math.MaxInt, 0), add(math.MinInt, 0), num(2))), to(0, none, none, none, none, 0)},
		{"of itself", fun(0, block(to(0), ret(0), add(1, 0))), to(0, none)},
		{"of a later step", fun(0, block(nil, ret(0), add(1, 1), num(1), add(0, 1), add(1, 1))), to(none, 0, none, 0)},
		{"of a later block's parameter", fun(0, block(nil, jump(1, 0), add(1, 1)), block(to(0), ret(0))), to(0, 0)},
		{"of a parameter of a block that is not met", fun(0, block(nil, ret(0), add(1, 1)), block(to(0), ret(0))), to(0, 0)},
		{"a function without a met block but the first", fun(0, block(nil, ret(0)), block(nil, ret(0), num(1))), to(0)},
	} {
		before := cloneFunc(x.f)
		if got := well.Types(world(), x.f); !slices.Equal(got, x.want) {
			t.Errorf("%s: %v, not %v", x.name, got, x.want)
		}
		if !exactFunc(before, x.f) {
			t.Errorf("%s: what was handed in is changed", x.name)
		}
	}
}

// P9.1: the order in which blocks are gone through is cfg.Order's, then that of the numbers of those that are not met, once.
func TestTypesInOrder(t *testing.T) {
	for _, x := range []struct {
		name string
		f    api.Func
		want []int
	}{
		{
			// Order is 0, 2, 1.
			"a block ahead of one with a lower number", fun(0,
				block(nil, jump(2)),
				block(nil, ret(0), add(1, 1)),
				block(nil, jump(1), num(1))), to(0, 0),
		},
		{
			// Order is 0, 2, 1: block 2's step is of a value of a block that is gone through later.
			"a block behind one with a higher number", fun(0,
				block(nil, jump(2)),
				block(nil, ret(0), num(1)),
				block(nil, jump(1), add(0, 0))), to(0, none),
		},
		{
			// Order is 0, 2, 1, 3, not 0, 1, 2, 3: of the two that are met from 0, the second one comes first.
			"both sides of a fork", fun(0,
				block(nil, branch(0, 1, nil, 2, nil), bit(1)),
				block(nil, jump(3), add(2, 2)),
				block(nil, jump(3), num(1), add(1, 1)),
				block(nil, ret(0), add(1, 2))), to(1, 0, 0, none, 0),
		},
		{
			"a loop: what comes back counts as nothing", fun(0,
				block(nil, jump(1), num(1)),
				block(nil, jump(2), add(2, 0), add(0, 0)),
				block(nil, branch(0, 1, nil, 3, nil), add(0, 2), add(2, 1)),
				block(nil, ret(0), add(4, 4))), to(0, none, 0, 0, none, none),
		},
		{
			// Once: a second round would make an int of 0's step.
			"steps that would be more in a second round", fun(0,
				block(nil, jump(1), add(1, 1)),
				block(nil, jump(0), num(1), add(0, 0), add(1, 1))), to(none, 0, none, 0),
		},
		{
			"a block that is met is gone through ahead of one that is not", fun(0,
				block(nil, jump(2)),
				block(nil, ret(0), num(1), add(2, 2)),
				block(nil, ret(0), num(2), add(0, 0))), to(0, 0, 0, none),
		},
		{
			// 1 and 2 are not met, though each leads on to the other: their numbers alone say which comes first.
			"blocks that are not met, by their numbers", fun(0,
				block(nil, ret(0)),
				block(nil, jump(2), num(1), add(2, 2)),
				block(nil, jump(1), num(2), add(0, 0))), to(0, none, 0, 0),
		},
		{
			"blocks that are not met, the higher one leading on to the lower one", fun(0,
				block(nil, ret(0)),
				block(nil, ret(0), num(1), add(2, 2)),
				block(nil, jump(1), num(2), add(0, 0))), to(0, none, 0, 0),
		},
		{
			"ways to blocks that are not there, and to block 0", fun(0,
				block(nil, branch(0, 7, nil, -1, nil), bit(0), add(2, 2)),
				block(nil, jump(0), num(1))), to(1, none, 0),
		},
	} {
		if got := well.Types(world(), x.f); !slices.Equal(got, x.want) {
			t.Errorf("%s: %v, not %v", x.name, got, x.want)
		}
	}
}

// P9.1: Types hangs on the program that is handed in: its classes, functions and methods, and a nil program has none of them.
func TestTypesOfProgram(t *testing.T) {
	p := world()
	want := map[int][]int{
		fMain: to(0, 0, 1, 0, 0, 0, none, 2, 0, 0, 1, 0, 1, 1),
		fWork: to(0, 1, 2, 3, 4, 5, 6, 7,
			0, 1, 2, 0, 1, 2, 0, 0, 1, 6, 0, none, 3, 3, 0, 0, none, 4, none, 0, 0, 0, 5, 2, 0, none),
		fAsked: to(5, 2, 7, 0), fShown: to(5, 0, none), fCalled: to(0, 1, 2), fIdle: to(6, 7),
	}
	for n, f := range p.Funcs {
		if got := well.Types(p, f); !slices.Equal(got, want[n]) {
			t.Errorf("function %d: %v, not %v", n, got, want[n])
		}
	}
	if !exact(p, world()) {
		t.Error("what was handed in is changed")
	}
	// The function need not be one of the program's.
	other := fun(9, block(to(7), ret(0), call(fIdle, 3), call(fIdle, 0), call(fIdle, 0), api.Op{K: api.OpNew, N: 1}))
	if got := well.Types(p, other); !slices.Equal(got, to(7, none, none, none, 7)) {
		t.Error(got)
	}
	for _, none := range []*api.Prog{nil, {}} {
		want := to(0, 1, 2, 3, 4, 5, 6, 7,
			0, 1, 2, 0, 1, 2, 0, 0, 1, -1, -1, -1, 3, 3, 0, 0, -1, 4, -1, 0, 0, 0, -1, -1, -1, -1)
		if got := well.Types(none, work()); !slices.Equal(got, want) {
			t.Errorf("of no program: %v", got)
		}
	}
	// What a program declares stands as it is, also where it is no type.
	p.Sigs[0].Ret, p.Funcs[fCalled].Ret, p.Classes[0].Fields[0] = 77, -9, 66
	got := well.Types(p, p.Funcs[fWork])
	if got[32] != 77 || got[31] != -9 || got[18] != 66 || got[17] != none {
		t.Error(got)
	}
}

// P9.1: what Types answers is in memory of its own.
func TestTypesIsNewMemory(t *testing.T) {
	room := append(make([]int, 0, 8), 0, 1)
	f := fun(0, block(room, ret(0), num(1)), block(room[:1], ret(0), tell(0)))
	a, b := well.Types(nil, f), well.Types(nil, f)
	for _, l := range [][]int{a[:cap(a)], a} {
		for at := range l {
			l[at] = 55
		}
	}
	if !slices.Equal(b, to(0, 1, 0, 0, none)) || !slices.Equal(room[:cap(room)], to(0, 1, 0, 0, 0, 0, 0, 0)) || !slices.Equal(f.Blocks[1].Params, to(0)) {
		t.Error(b, room[:cap(room)])
	}
}

// A long function: types are worked out in one go, and nothing lies as deep as blocks lead on.
func TestTypesOfLong(t *testing.T) {
	const size = 1 << 17
	f := api.Func{Blocks: make([]api.Block, size)}
	for at := range f.Blocks {
		// From the last block down to block 1; each step is of the one gone through just ahead of it.
		f.Blocks[at] = block(nil, jump(at-1), add(at+1, at+1))
	}
	f.Blocks[0] = block(nil, jump(size-1), num(1))
	f.Blocks[size-1].Ops[0] = add(0, 0)
	f.Blocks[1].End = ret(0)
	got := well.Types(nil, f)
	if len(got) != size || slices.ContainsFunc(got, func(t int) bool { return t != api.TInt }) {
		t.Error("a chain that falls")
	}
	if !well.Sees(f, 1, 0, 2) || !well.Sees(f, 1, 1, size-1) || !well.Sees(f, 1, 0, 0) || well.Sees(f, 2, 1, 1) || well.Sees(f, size-1, 0, size-1) {
		t.Error("what is seen along the chain")
	}
}
