package well_test

import (
	"math"
	"testing"

	"hallmark/api"
	"hallmark/well"
)

// diamond forks, joins, loops and ends; block 5 is not met, though it leads on to block 3; block 6 is empty, and not met; block 7 is not met.
func diamond() api.Func {
	return fun(api.TInt,
		block(to(0), branch(1, 1, nil, 2, nil), less(0, 0)),        // 0, 1
		block(nil, jump(3, 2), num(1), num(2)),                     // 2, 3
		block(nil, jump(3, 4), num(3)),                             // 4
		block(to(0), branch(6, 3, to(5), 4, to(5, 6)), less(5, 5)), // 5, 6
		block(to(0, 1), ret(7), tell(7), num(4)),                   // 7, 8; 9, 10
		block(to(0), jump(3, 12), num(5)),                          // 11; 12
		block(nil, ret(0)),                                         // none
		block(to(0), ret(0), num(6)),                               // 13; 14
	)
}

// P9.1: Sees, as worked out by hand.
func TestSeesByHand(t *testing.T) {
	f := diamond()
	for _, x := range []struct {
		name             string
		block, at, value int
		want             bool
	}{
		{"a parameter of the block", 0, 0, 0, true},
		{"a parameter, at the end", 0, 1, 0, true},
		{"the step itself", 0, 0, 1, false},
		{"a step ahead, at the end", 0, 1, 1, true},
		{"both parameters, at the first step", 4, 0, 8, true},
		{"both parameters, at the end", 4, 2, 8, true},
		{"the first step, at itself", 4, 0, 9, false},
		{"the first step, at the second one", 4, 1, 9, true},
		{"the second step, at the first one", 4, 0, 10, false},
		{"the second step, at itself", 4, 1, 10, false},
		{"the second step, at the end", 4, 2, 10, true},
		{"a step without parameters ahead", 1, 1, 2, true},
		{"the step itself, without parameters ahead", 1, 1, 3, false},
		{"a later step of a block in a loop", 3, 0, 6, false},
		{"a step of block 0, from a side", 1, 0, 1, true},
		{"block 0's parameter, from the other side", 2, 0, 0, true},
		{"a side, from the other one", 2, 1, 2, false},
		{"a side, from the other one, turned about", 1, 2, 4, false},
		{"a side, from behind the join", 3, 0, 2, false},
		{"a side, from behind the join, at the end", 3, 1, 4, false},
		{"block 0, from behind the join", 3, 0, 1, true},
		{"block 0, from the end", 4, 0, 0, true},
		{"the join's parameter, from behind it", 4, 0, 5, true},
		{"the join's step, from behind it", 4, 0, 6, true},
		{"what is below, from block 0", 0, 1, 5, false},
		{"what is below, from the side that leads to it", 1, 2, 5, false},
		{"what is behind a loop, from in it", 3, 1, 7, false},
		{"a block that is not met: its parameter", 5, 0, 11, true},
		{"a block that is not met: its step at itself", 5, 0, 12, false},
		{"a block that is not met: its step at the end", 5, 1, 12, true},
		{"a block that is not met sees nothing of block 0", 5, 0, 0, false},
		{"a block that is not met sees nothing of what it leads to", 5, 1, 5, false},
		{"a block that is not met sees nothing of another one", 7, 1, 11, false},
		{"nothing of a block that is not met", 3, 1, 11, false},
		{"nothing of a block that is not met, from block 0", 0, 1, 14, false},
		{"an empty block that is not met", 6, 0, 13, false},
		{"an empty block that is not met, block 0's", 6, 0, 0, false},
		{"the last value", 7, 1, 14, true},
		{"at below 0", 0, -1, 0, false},
		{"at below 0, of another block's value", 4, -1, 0, false},
		{"at behind the end", 0, 2, 0, false},
		{"at behind the end, of another block's value", 4, 3, 0, false},
		{"at far off", 4, math.MaxInt, 7, false},
		{"at far below", 4, math.MinInt, 7, false},
		{"a block below 0", -1, 0, 0, false},
		{"a block behind the last one", 8, 0, 0, false},
		{"a block far off", math.MaxInt, 0, 0, false},
		{"a block far below", math.MinInt, 0, 0, false},
		{"a value below 0", 4, 2, -1, false},
		{"a value behind the last one", 4, 2, 15, false},
		{"a value behind the last one, from the last block", 7, 1, 15, false},
		{"a value behind the last one, from block 0", 0, 1, 15, false},
		{"a value far off", 4, 2, math.MaxInt, false},
		{"a value far below", 4, 2, math.MinInt, false},
	} {
		if got := well.Sees(f, x.block, x.at, x.value); got != x.want {
			t.Errorf("%s: Sees %d, %d, %d: %v", x.name, x.block, x.at, x.value, got)
		}
	}
	if !exactFunc(f, diamond()) {
		t.Error("what was handed in is changed")
	}
}

// P9.1: where there is nothing, nothing is seen.
func TestSeesOfNothing(t *testing.T) {
	for _, f := range []api.Func{{}, fun(0, api.Block{}), fun(0, block(nil, jump(1)), block(nil, jump(0)))} {
		for block := -2; block < 4; block++ {
			for at := -2; at < 3; at++ {
				for value := -2; value < 3; value++ {
					if well.Sees(f, block, at, value) {
						t.Error(len(f.Blocks), block, at, value)
					}
				}
			}
		}
	}
}

// P9.1: a block whose only way in is a loop back to block 0 sees that one; block 0 sees nothing of what leads back to it.
func TestSeesBackToFirst(t *testing.T) {
	f := fun(0, block(to(0), jump(1), num(1)), block(nil, jump(0, 2), num(2)))
	if !well.Sees(f, 1, 0, 0) || !well.Sees(f, 1, 0, 1) || well.Sees(f, 0, 0, 2) || well.Sees(f, 0, 1, 2) || well.Sees(f, 0, 0, 1) {
		t.Error("back to block 0")
	}
}

// P9.1: what a step comes to plays no part in what is seen, and neither does whether it can be.
func TestSeesAnything(t *testing.T) {
	f := fun(0, block(to(99, -1), jump(1), tell(9), api.Op{K: 77}, num(1)), block(nil, api.End{K: 9}))
	for value := range 5 {
		if !well.Sees(f, 0, 3, value) || !well.Sees(f, 1, 0, value) {
			t.Error(value)
		}
	}
}
