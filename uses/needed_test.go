package uses_test

import (
	"math"
	"testing"

	"hallmark/api"
	"hallmark/show"
	"hallmark/uses"
	"hallmark/well"
)

// needing are functions, with what each block needs and leaves, worked out by hand.
var needing = []struct {
	name         string
	f            api.Func
	needed, left [][]int
	most         int
}{
	{"no blocks", fun(none), nil, nil, 0},
	{"one block", fun(api.TInt, block(1, ret(0), num(), sum(0, 1))), each(nil), each(nil), 0},
	{
		"the chapter's example", fun(none, block(0, jump(1), num()), block(0, ret(0), tell(0))),
		each(nil, to(0)), each(to(0), nil), 1,
	},
	{
		"a chain", fun(none,
			block(0, jump(1), num(), num()),          // 0, 1
			block(0, jump(2), tell(0), num()),        // 2, 3
			block(0, jump(3), tell(3)),               // 4
			block(0, ret(0), tell(1), num(), num())), // 5, 6, 7
		each(nil, to(0, 1), to(1, 3), to(1)), each(to(0, 1), to(1, 3), to(1), nil), 2,
	},
	{
		"a chain by other numbers", fun(none,
			block(0, jump(2), num()),  // 0
			block(0, ret(0), tell(0)), // 1
			block(0, jump(3)),
			block(0, jump(1), tell(0))), // 2
		each(nil, to(0), to(0), to(0)), each(to(0), nil, to(0), to(0)), 1,
	},
	{
		"arms that meet again", fun(none,
			block(0, branch(2, 1, nil, 2, nil), num(), num(), bit()), // 0, 1, 2
			block(0, jump(3), tell(0)),                               // 3
			block(0, jump(3), tell(1)),                               // 4
			block(0, ret(0), tell(0))),                               // 5
		each(nil, to(0), to(0, 1), to(0)), each(to(0, 1), to(0), to(0), nil), 2,
	},
	{
		"arms that end apart, the greater number first", fun(api.TInt,
			block(0, branch(2, 1, nil, 2, nil), num(), num(), bit()),
			block(0, ret(1)),
			block(0, stop(0))),
		each(nil, to(1), to(0)), each(to(0, 1), nil, nil), 1,
	},
	{
		"arms one of which makes what the other one does not", fun(none,
			block(0, branch(1, 1, nil, 2, nil), num(), bit()),
			block(0, jump(3), num()), // 2
			block(0, jump(3)),
			block(0, ret(0), sum(2, 0))), // 3: block 0 does not make 2, and needs it
		each(to(2), to(0), to(0, 2), to(0, 2)), each(to(0, 2), to(0, 2), to(0, 2), nil), 2,
	},
	{
		"a branch to one block twice", fun(none,
			block(0, branch(0, 1, to(0), 1, to(1)), bit(), num()),
			block(1, ret(0), tell(1), tell(2))),
		each(nil, to(1)), each(to(1), nil), 1,
	},
	{
		"a value that goes round a loop unchanged", fun(none,
			block(0, jump(1), num(), bit()), // 0, 1
			block(0, branch(1, 2, nil, 3, nil)),
			block(0, jump(1)),
			block(0, ret(0), tell(0))), // 2
		each(nil, to(0, 1), to(0, 1), to(0)), each(to(0, 1), to(0, 1), to(0, 1), nil), 2,
	},
	{
		"a value that goes round a loop as a parameter", fun(none,
			block(0, jump(1, 0), num(), bit()),        // 0, 1
			block(1, branch(1, 2, to(2), 3, nil)),     // 2
			block(1, jump(1, 4), sum(3, 3)),           // 3, 4
			block(0, ret(0), tell(2), num(), tell(6)), // 5, 6, 7
		),
		each(nil, to(1), to(1), to(2)), each(to(1), to(1, 2), to(1), nil), 1,
	},
	{
		"loops in one another", fun(none,
			block(0, jump(1), num(), bit()),            // 0, 1
			block(0, branch(1, 2, nil, 5, nil), num()), // 2
			block(0, branch(1, 3, nil, 4, nil)),
			block(0, jump(2), tell(2)), // 3
			block(0, jump(1), tell(0)), // 4
			block(0, ret(0))),
		each(nil, to(0, 1), to(0, 1, 2), to(0, 1, 2), to(0, 1), nil), each(to(0, 1), to(0, 1, 2), to(0, 1, 2), to(0, 1, 2), to(0, 1), nil), 3,
	},
	{
		"a block that goes to itself", fun(none,
			block(0, jump(1), num(), num()),
			block(0, jump(1), tell(0), num(), tell(3))), // 2, 3, 4
		each(nil, to(0)), each(to(0), to(0)), 1,
	},
	{
		"a loop in which nothing is used", fun(none,
			block(1, jump(1), num()), block(0, jump(2), num()), block(1, jump(1), num())),
		each(nil, nil, nil), each(nil, nil, nil), 0,
	},
	{
		"values that the next block is of", fun(none,
			block(1, jump(1), num()),            // 0, 1
			block(1, jump(2), sum(0, 1)),        // 2, 3
			block(1, ret(0), sum(2, 3), num())), // 4, 5, 6
		each(nil, to(0, 1), to(2, 3)), each(to(0, 1), to(2, 3), nil), 2,
	},
	{
		"used ahead of where the block makes it", fun(none,
			block(0, jump(1)), block(0, branch(1, 1, nil, 2, nil), tell(1), num()), block(0, ret(0), tell(1))),
		each(nil, nil, to(1)), each(nil, to(1), nil), 1,
	},
	{
		"made by a block that is passed later", fun(none,
			block(0, jump(1)), block(0, jump(2), tell(1)), block(0, jump(1), num())),
		each(to(1), to(1), nil), each(to(1), nil, to(1)), 1,
	},
	{
		"of later blocks alone", fun(none,
			block(0, jump(1), tell(3), tell(2)), block(0, ret(0), num(), num())),
		each(to(2, 3), nil), each(nil, nil), 2,
	},
	{
		"handed on is used by the block that hands it on", fun(none,
			block(0, jump(1), num()), block(0, jump(2, 0)), block(1, ret(0), tell(1))),
		each(nil, to(0), nil), each(to(0), nil, nil), 1,
	},
	{
		"all that an end is of", fun(none,
			block(5, jump(1)), block(0, branch(4, 2, to(3, 1), 3, to(0))), block(0, stop(2)), block(0, ret(1))),
		each(nil, to(0, 1, 2, 3, 4), to(2), nil), each(to(0, 1, 2, 3, 4), to(2), nil, nil), 5,
	},
	{
		"used again and again, falling", fun(api.TInt,
			block(3, jump(1)), block(0, ret(2), tell(2), tell(1), sum(2, 0), tell(1), call(2, 1, 0))),
		each(nil, to(0, 1, 2)), each(to(0, 1, 2), nil), 3,
	},
	{
		"a ret of a function that tells nothing", fun(none, block(1, jump(1)), block(0, ret(0))),
		each(nil, nil), each(nil, nil), 0,
	},
	{
		"a ret of a function that tells something", fun(api.TText, block(1, jump(1)), block(0, ret(0))),
		each(nil, to(0)), each(to(0), nil), 1,
	},
	{
		"blocks that are never met", fun(none,
			block(0, ret(0), num()),    // 0
			block(0, jump(2), tell(0)), // 1
			block(0, jump(1), num()),   // 2
			block(0, jump(0), tell(2)), // 3
			block(0, branch(0, 3, nil, 1, nil))),
		each(nil, to(0), to(0), to(2), to(0, 2)), each(nil, to(0), to(0), nil, to(0, 2)), 2,
	},
	{
		"targets that are not there", fun(none,
			block(0, branch(0, -1, nil, 1, nil), bit(), num()),
			block(0, jump(3), tell(1)),
			block(0, branch(0, math.MaxInt, nil, math.MinInt, to(1)))),
		each(nil, to(1), to(0, 1)), each(to(1), nil, nil), 2,
	},
	{
		"numbers that are no value's", fun(api.TInt,
			block(0, jump(1, 3), tell(-1), tell(math.MinInt)),
			block(0, jump(2, -5, 0), sum(3, 1<<32)),
			block(0, ret(math.MaxInt))),
		each(nil, to(0), nil), each(to(0), nil, nil), 1,
	},
	{
		"an end that is none", fun(api.TInt,
			block(1, jump(1)), block(0, api.End{K: 4, A: 0, To: 2, L: to(0)}), block(0, jump(1), tell(0))),
		each(nil, nil, to(0)), each(nil, nil, nil), 1,
	},
	{
		"the first block of them all needs most", fun(none,
			block(0, jump(1), sum(2, 3)), block(1, jump(2), num()), block(2, ret(0), tell(1))),
		each(to(2, 3), nil, to(1)), each(nil, to(1), nil), 2,
	},
	{
		"the last block needs most", fun(none,
			block(3, jump(1)), block(0, branch(0, 2, nil, 1, nil)), block(0, ret(0), sum(1, 2))),
		each(nil, to(0, 1, 2), to(1, 2)), each(to(0, 1, 2), to(0, 1, 2), nil), 3,
	},
	{
		"the last block alone needs most", fun(none,
			block(3, stop(0)), block(0, stop(1)), block(0, ret(0), call(2, 1, 0))),
		each(nil, to(1), to(0, 1, 2)), each(nil, nil, nil), 3,
	},
	{
		"a block between needs most", fun(none,
			block(3, jump(1)), block(0, jump(2), sum(0, 1)), block(0, jump(3), sum(0, 2)), block(0, ret(0), tell(2))),
		each(nil, to(0, 1, 2), to(0, 2), to(2)), each(to(0, 1, 2), to(0, 2), to(2), nil), 3,
	},
}

// P13.2, P13.3, by hand.
func TestP13_2Needed(t *testing.T) {
	for _, x := range needing {
		if got := uses.Needed(x.f); !lists(got, x.needed) {
			t.Errorf("%s: Needed %v, not %v, of\n%s", x.name, got, x.needed, show.Func(x.f))
		}
		if got := uses.Left(x.f); !lists(got, x.left) {
			t.Errorf("%s: Left %v, not %v, of\n%s", x.name, got, x.left, show.Func(x.f))
		}
		if got := uses.Most(x.f); got != x.most {
			t.Errorf("%s: Most %d, not %d, of\n%s", x.name, got, x.most, show.Func(x.f))
		}
		held(t, x.f)
	}
}

// P13.3: the greatest stands first, last, and between, wherever the blocks are laid.
func TestP13_3Most(t *testing.T) {
	const size = 6
	for great := range size {
		// Nothing leads on: each block needs what it is of itself. The last one makes all values.
		f := fun(none)
		values := 0
		for at := range size {
			l := to(size, size+1)[:at%2+1]
			if at == great {
				l = to(size, size+1, size+2)
			}
			f.Blocks = append(f.Blocks, block(0, stop(l[0]), call(l...)))
			values++
		}
		f.Blocks = append(f.Blocks, block(3, stop(values)))
		if got := uses.Most(f); got != 3 {
			t.Errorf("block %d: %d", great, got)
		}
		held(t, f)
	}
}

// P13.4, by hand: what a block leaves is its parameter, its step, or what it needs itself; and each of these happens.
func TestP13_4Along(t *testing.T) {
	f := fun(none,
		block(1, jump(1)),                        // 0
		block(1, jump(2, 2), num(), num()),       // 1, 2, 3
		block(1, ret(0), call(0, 1, 3), tell(2))) // 4
	if got := uses.Left(f)[1]; !lists(each(got), each(to(0, 1, 2, 3))) {
		t.Error(got)
	}
	if got := uses.Needed(f)[1]; !lists(each(got), each(to(0))) {
		t.Error(got)
	}
	held(t, f)
}

// P13.5, by hand: the first block of a well made function needs nothing, even where what it leaves goes round loops; where one number is another one the function is not well made, and it needs something.
func TestP13_5MadeWell(t *testing.T) {
	f := fun(api.TInt,
		block(1, jump(1, 0), bit()),          // 0, 1
		block(1, branch(1, 2, nil, 3, nil)),  // 2
		block(0, jump(1, 3), sum(2, 0)),      // 3
		block(0, ret(4), sum(0, 2), tell(4))) // 4, 5
	p := &api.Prog{Funcs: []api.Func{f}}
	if err := well.Check(p); err != api.OK {
		t.Fatal(err)
	}
	if got := uses.Needed(f); !lists(got, each(nil, to(0, 1), to(0, 1, 2), to(0, 2))) {
		t.Error(got)
	}
	// The way past block 2 is not the only one to block 3.
	f.Blocks[3].Ops[0].B = 3
	if err := well.Check(p); err != api.ErrForm {
		t.Fatal(err)
	}
	if got := uses.Needed(f); !lists(got, each(to(3), to(0, 1, 3), to(0, 1, 2), to(0, 3))) {
		t.Error(got)
	}
	held(t, f)
}
