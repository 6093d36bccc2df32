package dom_test

import (
	"math"
	"slices"
	"testing"

	"hallmark/api"
	"hallmark/dom"
)

// to is a list, written shortly.
func to(n ...int) []int { return n }

// goes is a function of blocks that go to the blocks listed: to none with a ret, to one with a jump, to two with a branch. What plays no part leads elsewhere.
func goes(ways ...[]int) api.Func {
	f := api.Func{Blocks: make([]api.Block, len(ways))}
	for at, l := range ways {
		e := api.End{K: api.EndRet, A: 7, To: (at + 1) % len(ways), Else: 0}
		switch len(l) {
		case 1:
			e.K, e.To = api.EndJump, l[0]
		case 2:
			e.K, e.To, e.Else = api.EndBranch, l[0], l[1]
		}
		f.Blocks[at].End = e
	}
	return f
}

// row is a function, with all that is told of it, as worked out by hand. Edge and loops that are left out are empty.
type row struct {
	name  string
	ways  [][]int
	above []int
	edge  map[int][]int
	loops []api.Loop
	wild  bool
}

var rows = []row{
	{name: "nothing"},
	{name: "one block", ways: [][]int{to()}, above: to(-1)},
	{name: "a chain", ways: [][]int{to(1), to(2), to(3), to()}, above: to(-1, 0, 1, 2)},
	{name: "a chain that falls", ways: [][]int{to(3), to(), to(1), to(2)}, above: to(-1, 2, 3, 0)},
	{name: "both ways to one block", ways: [][]int{to(1, 1), to(2, 2), to()}, above: to(-1, 0, 1)},
	{name: "a fork that does not join", ways: [][]int{to(1, 2), to(), to()}, above: to(-1, 0, 0)},
	{
		name: "a fork that joins", ways: [][]int{to(1, 2), to(3), to(3), to(4), to()}, above: to(-1, 0, 0, 0, 3),
		edge: map[int][]int{1: to(3), 2: to(3)},
	},
	{
		name: "a short way", ways: [][]int{to(1, 2), to(2), to()}, above: to(-1, 0, 0),
		edge: map[int][]int{1: to(2)},
	},
	{
		name: "a fork in a fork", ways: [][]int{to(1, 2), to(3, 4), to(6), to(5), to(5), to(6), to()}, above: to(-1, 0, 0, 1, 1, 1, 0),
		edge: map[int][]int{1: to(6), 2: to(6), 3: to(5), 4: to(5), 5: to(6)},
	},
	{
		name: "a fork that joins twice, the higher one first", ways: [][]int{to(2, 1), to(4, 3), to(4, 3), to(), to()}, above: to(-1, 0, 0, 0, 0),
		edge: map[int][]int{1: to(3, 4), 2: to(3, 4)},
	},
	{
		name: "the chapter's example", ways: [][]int{to(1), to(1, 2), to()}, above: to(-1, 0, 1),
		edge: map[int][]int{1: to(1)}, loops: []api.Loop{{Head: 1, Blocks: to(1)}},
	},
	{
		name: "one way back", ways: [][]int{to(1), to(2, 3), to(1), to()}, above: to(-1, 0, 1, 1),
		edge: map[int][]int{1: to(1), 2: to(1)}, loops: []api.Loop{{Head: 1, Blocks: to(1, 2)}},
	},
	{
		name: "one way back, numbers falling", ways: [][]int{to(3), to(), to(3), to(2, 1)}, above: to(-1, 3, 3, 0),
		edge: map[int][]int{2: to(3), 3: to(3)}, loops: []api.Loop{{Head: 3, Blocks: to(2, 3)}},
	},
	{
		name: "two ways back to one head", ways: [][]int{to(1), to(2, 4), to(1, 3), to(1), to()}, above: to(-1, 0, 1, 2, 1),
		edge: map[int][]int{1: to(1), 2: to(1), 3: to(1)}, loops: []api.Loop{{Head: 1, Blocks: to(1, 2, 3)}},
	},
	{
		name: "two ways back from either side of a fork", ways: [][]int{to(1), to(2, 3), to(1), to(1, 4), to()}, above: to(-1, 0, 1, 1, 3),
		edge: map[int][]int{1: to(1), 2: to(1), 3: to(1)}, loops: []api.Loop{{Head: 1, Blocks: to(1, 2, 3)}},
	},
	{
		name: "a fork in a loop", ways: [][]int{to(1), to(2, 3), to(4), to(4), to(1, 5), to()}, above: to(-1, 0, 1, 1, 1, 4),
		edge: map[int][]int{1: to(1), 2: to(4), 3: to(4), 4: to(1)}, loops: []api.Loop{{Head: 1, Blocks: to(1, 2, 3, 4)}},
	},
	{
		name: "a loop in a loop", ways: [][]int{to(1), to(2, 6), to(3, 5), to(4), to(2), to(1), to()}, above: to(-1, 0, 1, 2, 3, 2, 1),
		edge:  map[int][]int{1: to(1), 2: to(1, 2), 3: to(2), 4: to(2), 5: to(1)},
		loops: []api.Loop{{Head: 1, Blocks: to(1, 2, 3, 4, 5)}, {Head: 2, Blocks: to(2, 3, 4)}},
	},
	{
		name: "three loops in one another", ways: [][]int{to(1), to(2), to(3), to(3, 4), to(2, 5), to(1, 6), to()}, above: to(-1, 0, 1, 2, 3, 4, 5),
		edge:  map[int][]int{1: to(1), 2: to(1, 2), 3: to(1, 2, 3), 4: to(1, 2), 5: to(1)},
		loops: []api.Loop{{Head: 1, Blocks: to(1, 2, 3, 4, 5)}, {Head: 2, Blocks: to(2, 3, 4)}, {Head: 3, Blocks: to(3)}},
	},
	{
		name: "loops side by side, the later one first", ways: [][]int{to(3), to(2, 5), to(1), to(4, 1), to(3), to()}, above: to(-1, 3, 1, 0, 3, 1),
		edge:  map[int][]int{1: to(1), 2: to(1), 3: to(3), 4: to(3)},
		loops: []api.Loop{{Head: 1, Blocks: to(1, 2)}, {Head: 3, Blocks: to(3, 4)}},
	},
	{
		name: "back to itself, and back from another one", ways: [][]int{to(1), to(1, 2), to(1, 3), to()}, above: to(-1, 0, 1, 2),
		edge: map[int][]int{1: to(1), 2: to(1)}, loops: []api.Loop{{Head: 1, Blocks: to(1, 2)}},
	},
	{
		name: "back to itself within a loop", ways: [][]int{to(1), to(2), to(2, 1)}, above: to(-1, 0, 1),
		edge:  map[int][]int{1: to(1), 2: to(1, 2)},
		loops: []api.Loop{{Head: 1, Blocks: to(1, 2)}, {Head: 2, Blocks: to(2)}},
	},
	{
		name: "block 0 back to itself", ways: [][]int{to(0)}, above: to(-1),
		edge: map[int][]int{0: to(0)}, loops: []api.Loop{{Head: 0, Blocks: to(0)}},
	},
	{
		name: "block 0 back to itself, twice", ways: [][]int{to(0, 0)}, above: to(-1),
		edge: map[int][]int{0: to(0)}, loops: []api.Loop{{Head: 0, Blocks: to(0)}},
	},
	{
		name: "a way back to block 0", ways: [][]int{to(1), to(0, 2), to()}, above: to(-1, 0, 1),
		edge: map[int][]int{0: to(0), 1: to(0)}, loops: []api.Loop{{Head: 0, Blocks: to(0, 1)}},
	},
	{
		name: "ways back to block 0 from both sides", ways: [][]int{to(1, 2), to(3, 0), to(0, 3), to()}, above: to(-1, 0, 0, 0),
		edge: map[int][]int{0: to(0), 1: to(0, 3), 2: to(0, 3)}, loops: []api.Loop{{Head: 0, Blocks: to(0, 1, 2)}},
	},
	{
		name: "a loop entered at two places", ways: [][]int{to(1, 2), to(2), to(1, 3), to()}, above: to(-1, 0, 0, 2),
		edge: map[int][]int{1: to(2), 2: to(1)}, wild: true,
	},
	{
		name: "such a loop within one with one head", ways: [][]int{to(1), to(2, 3), to(3), to(2, 4), to(1, 5), to()}, above: to(-1, 0, 1, 1, 3, 4),
		edge: map[int][]int{1: to(1), 2: to(3), 3: to(1, 2), 4: to(1)}, loops: []api.Loop{{Head: 1, Blocks: to(1, 2, 3, 4)}}, wild: true,
	},
	{
		name: "three blocks that go round, entered from afar", ways: [][]int{to(1, 2), to(5), to(4, 3), to(4), to(5, 3), to(4)}, above: to(-1, 0, 0, 0, 0, 0),
		edge: map[int][]int{1: to(5), 2: to(3, 4), 3: to(4), 4: to(3, 5), 5: to(4)}, wild: true,
	},
	{
		name: "not met, but leading in", ways: [][]int{to(2), to(2), to(), to(1)}, above: to(-1, -1, 0, -1),
	},
	{
		name: "not met, leading into a loop and a join", ways: [][]int{to(1), to(2, 3), to(1, 3), to(), to(2, 3), to(4, 0)}, above: to(-1, 0, 1, 1, -1, -1),
		edge: map[int][]int{1: to(1), 2: to(1, 3)}, loops: []api.Loop{{Head: 1, Blocks: to(1, 2)}},
	},
	{
		name: "loops that are not met", ways: [][]int{to(), to(2), to(1, 3), to(3)}, above: to(-1, -1, -1, -1),
	},
	{
		name: "a loop that is not met, entered at two places", ways: [][]int{to(5), to(2, 3), to(3), to(2, 4), to(4), to()}, above: to(-1, -1, -1, -1, -1, 0),
	},
	{
		name: "targets below 0 and just beyond", ways: [][]int{to(-1, 2), to(3, 3), to(3, 1)}, above: to(-1, 2, 0),
	},
	{
		name: "targets far off", ways: [][]int{to(math.MaxInt, 1), to(math.MinInt, 2), to(1<<32, -1<<32), to(1<<32+3, 3)}, above: to(-1, 0, 1, -1),
	},
	{
		name: "a join, and targets that are no block", ways: [][]int{to(1, 2), to(4, 3), to(3, -1), to(4, 1)}, above: to(-1, 0, 0, 0),
		edge: map[int][]int{1: to(3), 2: to(3), 3: to(1)}, wild: true,
	},
}

// alike tells whether two lists of loops are one.
func alike(a, b []api.Loop) bool {
	return slices.EqualFunc(a, b, func(x, y api.Loop) bool { return x.Head == y.Head && slices.Equal(x.Blocks, y.Blocks) })
}

// P8.1 to P8.3: all that is told of a function, by hand.
func TestRows(t *testing.T) {
	for _, x := range rows {
		f := goes(x.ways...)
		edge := make([][]int, len(x.ways))
		for block, l := range x.edge {
			edge[block] = l
		}
		if got := dom.Above(f); !slices.Equal(got, x.above) {
			t.Errorf("Above of %s: %v, not %v", x.name, got, x.above)
		}
		if got := dom.Edge(f); !slices.EqualFunc(got, edge, slices.Equal) {
			t.Errorf("Edge of %s: %v, not %v", x.name, got, edge)
		}
		if got := dom.Loops(f); !alike(got, x.loops) {
			t.Errorf("Loops of %s: %v, not %v", x.name, got, x.loops)
		}
		if got := dom.Tame(f); got == x.wild {
			t.Errorf("Tame of %s: %v", x.name, got)
		}
	}
}

// P8.1: a block is over itself, if it is met, and over those below it; not the other way round.
func TestOver(t *testing.T) {
	f := goes(to(1, 2), to(3), to(3), to(4), to(3, 5), to(), to(3, 6))
	over := [][]int{to(0, 1, 2, 3, 4, 5), to(1), to(2), to(3, 4, 5), to(4, 5), to(5), to()}
	for a := range f.Blocks {
		for b := range f.Blocks {
			if got, want := dom.Over(f, a, b), slices.Contains(over[a], b); got != want {
				t.Errorf("Over %d, %d: %v, not %v", a, b, got, want)
			}
		}
	}
}

// P8.1: a number that is no block is over none, and none is over it, itself neither.
func TestOverOfNoBlock(t *testing.T) {
	for _, ways := range [][][]int{{}, {to(0)}, {to(-1, 1), to(2, 1)}, {to(1, 2), to(3), to(3), to(math.MaxInt, math.MinInt)}} {
		f := goes(ways...)
		size := len(f.Blocks)
		strange := to(-1, -2, -size, -size-1, size, size+1, 2*size+1, 1<<32, 1<<32+1, -1<<32, math.MaxInt32, math.MinInt32, math.MaxInt, math.MinInt)
		for _, a := range strange {
			for _, b := range slices.Concat(strange, numbers(f)) {
				if dom.Over(f, a, b) || dom.Over(f, b, a) {
					t.Error("over what is no block", size, a, b)
				}
			}
		}
	}
}

// P8.1: ends that are neither jumps nor branches lead nowhere, whatever their other fields hold.
func TestOtherEnds(t *testing.T) {
	for _, k := range []int{api.EndRet, api.EndStop, 4, -1, 256, 257, 1 << 32, 1<<32 + 1, math.MaxInt, math.MinInt} {
		f := goes(to(1), to(), to(), to())
		f.Blocks[1].End = api.End{K: k, A: 1, To: 2, Else: 1, L: to(2), M: to(3)}
		if above := dom.Above(f); !slices.Equal(above, to(-1, 0, -1, -1)) {
			t.Error(k, above)
		}
		if loops := dom.Loops(f); len(loops) != 0 || !dom.Tame(f) || slices.ContainsFunc(dom.Edge(f), func(l []int) bool { return len(l) > 0 }) {
			t.Error(k, loops)
		}
	}
}

// roomy is a list with spare room that holds something.
func roomy(n ...int) []int {
	return append(n, 71, 72, 73)[:len(n)]
}

// lent are the blocks of a function with loops in loops and joins, all of its lists with spare room: the blocks themselves, too.
func lent() []api.Block {
	var l []api.Block
	for at, ways := range [][]int{to(1, 2), to(3, 3), to(3, 0), to(4, 5), to(3, 4), to(0, 6), to(), to(6, 0), to(1, 1), to(2, 2)} {
		e := api.End{K: api.EndRet, A: at, L: roomy(at), M: roomy(1)}
		if len(ways) > 0 {
			e.K, e.To, e.Else = api.EndBranch, ways[0], ways[1]
		}
		l = append(l, api.Block{Params: roomy(api.TInt), Ops: []api.Op{{K: api.OpCall, L: roomy(at)}}[:1], End: e})
	}
	return l
}

// whole are blocks with all that lies in the spare room of their lists, in memory of its own.
func whole(l []api.Block) []api.Block {
	full := func(l []int) []int { return slices.Clone(l[:cap(l)]) }
	copied := slices.Clone(l)
	for at, b := range copied {
		ops := slices.Clone(b.Ops)
		for at := range ops {
			ops[at].L = full(ops[at].L)
		}
		b.End.L, b.End.M = full(b.End.L), full(b.End.M)
		copied[at] = api.Block{Params: full(b.Params), Ops: ops, End: b.End}
	}
	return copied
}

// answers are all lists that the package tells of a function.
func answers(f api.Func) [][]int {
	l := append([][]int{dom.Above(f)}, dom.Edge(f)...)
	for _, loop := range dom.Loops(f) {
		l = append(l, loop.Blocks)
	}
	return l
}

// Memory: what is handed over is left as it was, and each list that is answered is new.
func TestMemory(t *testing.T) {
	all := lent()
	f := api.Func{Ret: api.TInt, Blocks: all[:8]}
	first, tame, over := answers(f), dom.Tame(f), dom.Over(f, 3, 4)
	same := func(a, b api.Block) bool {
		ops := func(x, y api.Op) bool { return x.K == y.K && slices.Equal(x.L, y.L) }
		x, y := a.End, b.End
		return slices.Equal(a.Params, b.Params) && slices.EqualFunc(a.Ops, b.Ops, ops) &&
			x.K == y.K && x.A == y.A && x.To == y.To && x.Else == y.Else && slices.Equal(x.L, y.L) && slices.Equal(x.M, y.M)
	}
	for at := range first {
		kept := answers(f)
		spilled := first[at][:cap(first[at])]
		for n := range spilled {
			spilled[n] = -99
		}
		first[at] = kept[at]
		if !slices.EqualFunc(first, kept, slices.Equal) || !slices.EqualFunc(answers(f), kept, slices.Equal) {
			t.Fatal("lists that are answered share memory", at)
		}
	}
	if !tame || !over || !slices.EqualFunc(whole(all), whole(lent()), same) {
		t.Fatal("what was handed over is changed", tame, over)
	}
}

// Nothing is kept: what is told of a function hangs on nothing that was told of others.
func TestNothingIsKept(t *testing.T) {
	for range 2 {
		for at := range rows {
			f, g := goes(rows[at].ways...), goes(rows[len(rows)-1-at].ways...)
			kept := answers(f)
			answers(g)
			if !slices.EqualFunc(answers(f), kept, slices.Equal) {
				t.Error("another answer to", rows[at].name)
			}
		}
	}
}
