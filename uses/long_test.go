package uses_test

import (
	"runtime/debug"
	"slices"
	"testing"

	"hallmark/api"
	"hallmark/uses"
)

// long is how many blocks, and how many steps, the longest functions have: by far more than MaxBlocks and MaxOps.
const long = 1 << 18

// P13.2: long chains of blocks, rising and falling, with little room for calls that lie in one another: block 0 makes a value, the chain's last one is of it, and of the one that the block ahead makes.
func TestLongChains(t *testing.T) {
	defer debug.SetMaxStack(debug.SetMaxStack(1 << 20))
	for _, size := range []int{3, api.MaxBlocks, api.MaxBlocks + 1, long} {
		for _, down := range []bool{false, true} {
			// number is the number of the block at a place of the chain.
			number := func(place int) int {
				if down {
					return (size - place) % size
				}
				return place
			}
			f := api.Func{Ret: none, Blocks: make([]api.Block, size)}
			for place := range size {
				f.Blocks[number(place)] = block(0, branch(-1, number(min(place+1, size-1)), nil, number(max(place, 1)), nil), num())
			}
			near := number(size - 2)
			f.Blocks[number(size-1)] = block(0, ret(0), call(near, 0, near))
			needed, left := uses.Needed(f), uses.Left(f)
			for place := range size {
				needs, leaves := to(0), to(0)
				switch place {
				case 0:
					needs = nil
				case size - 2:
					leaves = to(0, near)
				case size - 1:
					needs, leaves = to(0, near), nil
				}
				if at := number(place); !slices.Equal(needed[at], needs) || !slices.Equal(left[at], leaves) {
					t.Fatal(size, down, place, needed[at], left[at])
				}
			}
			if got := uses.Most(f); got != 2 || len(needed) != size || len(left) != size {
				t.Error(size, down, got)
			}
		}
	}
}

// P13.2: many blocks that go to one, and one value that many steps are of.
func TestManyToOne(t *testing.T) {
	f := api.Func{Ret: none, Blocks: make([]api.Block, long)}
	for at := range f.Blocks {
		f.Blocks[at] = block(0, branch(0, long-1, nil, at+1, to(0)), tell(0))
	}
	f.Blocks[0].Ops = []api.Op{bit()}
	needed, left := uses.Needed(f), uses.Left(f)
	for at := range long {
		needs := to(0)
		if at == 0 {
			needs = nil
		}
		if !slices.Equal(needed[at], needs) || !slices.Equal(left[at], to(0)) {
			t.Fatal(at, needed[at], left[at])
		}
	}
	if n := uses.Counts(f)[0]; n != 3*long-1 || len(uses.Of(f, 0)) != 2*long-1 {
		t.Error(n)
	}
}

// P13.1, P13.2: one block of many steps, each of which is of the one ahead, and one that is of all of them.
func TestManySteps(t *testing.T) {
	b := block(0, jump(1), num())
	for at := range long - 1 {
		b.Ops = append(b.Ops, sum(at, at))
	}
	all := make([]int, long)
	for at := range all {
		all[at] = long - 1 - at
	}
	f := fun(none, b, block(0, jump(1), call(all...), call(all...)))
	slices.Reverse(all)
	if needed, left := uses.Needed(f), uses.Left(f); !lists(needed, each(nil, all)) || !lists(left, each(all, all)) || uses.Most(f) != long {
		t.Error(len(needed[0]), len(needed[1]), len(left[0]), len(left[1]))
	}
	counts := uses.Counts(f)
	for value, n := range counts {
		want := 4
		switch {
		case value == long-1:
			want = 2
		case value >= long:
			want = 0
		}
		if n != want {
			t.Fatal(value, n)
		}
	}
	if got := uses.Of(f, long-2); !slices.Equal(got, at(0, long-1, 1, 0, 1, 1)) || len(counts) != long+2 {
		t.Error(got)
	}
}
