package cfg_test

import (
	"math"
	"reflect"
	"slices"
	"testing"

	"hallmark/api"
	"hallmark/cfg"
)

// strangers are kinds of ends that are none, some of them kinds in their lowest bits alone.
var strangers = []int{-1, -2, -3, -4, -255, -256, 4, 5, 25, 26, 255, 256, 257, 1 << 16, 1<<16 + 1, 1 << 32, 1<<32 + 1, -1 << 32, math.MaxInt32, math.MinInt32, math.MaxInt, math.MinInt}

// full is an end whose fields all hold something.
func full(k int) api.End {
	return api.End{K: k, A: 4, To: 5, L: []int{7, 8}, Else: 6, M: []int{9, 8, 7}}
}

// alike tells whether two lists of targets are one; nil and empty lists are alike.
func alike(a, b []api.Target) bool {
	return slices.EqualFunc(a, b, func(x, y api.Target) bool { return x.To == y.To && slices.Equal(x.L, y.L) })
}

// P7.1: where each kind of end goes.
func TestTargetsAndNext(t *testing.T) {
	for _, x := range []struct {
		name    string
		end     api.End
		targets []api.Target
		next    []int
	}{
		{"a jump", full(api.EndJump), []api.Target{{To: 5, L: []int{7, 8}}}, []int{5}},
		{"a jump without values", api.End{To: 3, Else: 2, M: []int{1}}, []api.Target{{To: 3}}, []int{3}},
		{"the zero end", api.End{}, []api.Target{{}}, []int{0}},
		{"a branch", full(api.EndBranch), []api.Target{{To: 5, L: []int{7, 8}}, {To: 6, L: []int{9, 8, 7}}}, []int{5, 6}},
		{"a branch that falls", api.End{K: api.EndBranch, To: 6, L: []int{1}, Else: 5}, []api.Target{{To: 6, L: []int{1}}, {To: 5}}, []int{6, 5}},
		{"a branch, its first without values", api.End{K: api.EndBranch, To: 1, Else: 2, M: []int{3}}, []api.Target{{To: 1}, {To: 2, L: []int{3}}}, []int{1, 2}},
		{"the zero branch", api.End{K: api.EndBranch}, []api.Target{{}, {}}, []int{0}},
		{"a branch to one block", api.End{K: api.EndBranch, To: 4, L: []int{1, 2}, Else: 4, M: []int{3, 4}}, []api.Target{{To: 4, L: []int{1, 2}}, {To: 4, L: []int{3, 4}}}, []int{4}},
		{"a branch to one block, with the same values", api.End{K: api.EndBranch, To: 4, L: []int{1}, Else: 4, M: []int{1}}, []api.Target{{To: 4, L: []int{1}}, {To: 4, L: []int{1}}}, []int{4}},
		{"a jump below 0", api.End{To: -1, L: []int{-1}}, []api.Target{{To: -1, L: []int{-1}}}, []int{-1}},
		{"a jump far off", api.End{To: math.MaxInt}, []api.Target{{To: math.MaxInt}}, []int{math.MaxInt}},
		{"a branch below 0 and far off", api.End{K: api.EndBranch, To: math.MinInt, Else: 1 << 32}, []api.Target{{To: math.MinInt}, {To: 1 << 32}}, []int{math.MinInt, 1 << 32}},
		{"a branch below 0, twice", api.End{K: api.EndBranch, To: -7, Else: -7}, []api.Target{{To: -7}, {To: -7}}, []int{-7}},
		{"a branch to two of like lowest bits", api.End{K: api.EndBranch, To: 3, Else: 1<<32 + 3}, []api.Target{{To: 3}, {To: 1<<32 + 3}}, []int{3, 1<<32 + 3}},
		{"a ret", full(api.EndRet), nil, nil},
		{"a stop", full(api.EndStop), nil, nil},
	} {
		if got := cfg.Targets(x.end); !alike(got, x.targets) {
			t.Errorf("Targets of %s: %v, not %v", x.name, got, x.targets)
		}
		if got := cfg.Next(api.Block{End: x.end}); !slices.Equal(got, x.next) {
			t.Errorf("Next of %s: %v, not %v", x.name, got, x.next)
		}
	}
	for _, k := range strangers {
		if targets, next := cfg.Targets(full(k)), cfg.Next(api.Block{End: full(k)}); len(targets)+len(next) != 0 {
			t.Error("an end that is none goes on", k, targets, next)
		}
	}
}

// P7.1: Next hangs on the end alone, whatever the block has beside it.
func TestNextOfTheEndAlone(t *testing.T) {
	b := api.Block{Params: []int{1, 2}, Ops: []api.Op{{K: api.OpCall, N: 3, L: []int{4}}, {K: api.OpInt, N: 9}}, End: full(api.EndBranch)}
	if got := cfg.Next(b); !slices.Equal(got, []int{5, 6}) {
		t.Error(got)
	}
}

// blocks is a function of blocks that go to the blocks listed: none tells a ret, one a jump, two a branch; its other fields lead elsewhere.
func blocks(goes ...[]int) api.Func {
	f := api.Func{Ret: api.TInt}
	for at, l := range goes {
		e := api.End{K: api.EndRet, A: at, To: 0, L: []int{at}, Else: 1, M: []int{-at}}
		switch len(l) {
		case 1:
			e.K, e.To, e.Else = api.EndJump, l[0], len(goes)-1
		case 2:
			e.K, e.To, e.Else = api.EndBranch, l[0], l[1]
		}
		f.Blocks = append(f.Blocks, api.Block{Params: []int{api.TInt}, Ops: []api.Op{{K: api.OpInt, N: int64(at)}}, End: e})
	}
	return f
}

// to is a list, written shortly.
func to(n ...int) []int { return n }

// P7.1: which blocks go to a block.
func TestAhead(t *testing.T) {
	for _, x := range []struct {
		name string
		f    api.Func
		want [][]int
	}{
		{"nothing", api.Func{}, nil},
		{"one block", blocks(to()), [][]int{to()}},
		{"one block that jumps to itself", blocks(to(0)), [][]int{to(0)}},
		{"one block that branches to itself twice", blocks(to(0, 0)), [][]int{to(0)}},
		{"the chapter's example", blocks(to(1, 2), to(3), to(3), to()), [][]int{to(), to(0), to(0), to(1, 2)}},
		{"both targets one block", blocks(to(1, 1), to()), [][]int{to(), to(0)}},
		{"a block that all go to", blocks(to(3), to(3, 0), to(0, 3), to(3), to(3, 3)), [][]int{to(1, 2), to(), to(), to(0, 1, 2, 3, 4), to()}},
		{"from higher ones, too", blocks(to(2), to(), to(1, 0), to(1)), [][]int{to(2), to(2, 3), to(0), to()}},
		{"blocks that are not met lead on, too", blocks(to(), to(2), to(1, 0)), [][]int{to(2), to(2), to(1)}},
		{"blocks that are not there", blocks(to(-1, 3), to(3, 1), to(math.MaxInt, math.MinInt)), [][]int{to(), to(1), to()}},
	} {
		if got := cfg.Ahead(x.f); !slices.EqualFunc(got, x.want, slices.Equal) {
			t.Errorf("Ahead of %s: %v, not %v", x.name, got, x.want)
		}
	}
}

// P7.1: Ahead holds just what Next tells, of blocks that are there, rising, each once.
func TestAheadIsNextTurnedAbout(t *testing.T) {
	for at, f := range drawn(2000) {
		ahead := cfg.Ahead(f)
		if len(ahead) != len(f.Blocks) {
			t.Fatal(at, ahead)
		}
		for block, l := range ahead {
			var want []int
			for from, b := range f.Blocks {
				if slices.Contains(cfg.Next(b), block) {
					want = append(want, from)
				}
			}
			if !slices.Equal(l, want) {
				t.Errorf("%d: ahead of %d of %s: %v, not %v", at, block, told(f), l, want)
			}
		}
	}
}

// roomy is a list with spare room that holds something.
func roomy(n ...int) []int {
	l := slices.Clip(append(slices.Clone(n), 71, 72, 73, 74))
	return l[:len(n)]
}

// spilled writes over a list, its spare room too.
func spilled(l []int) {
	l = l[:cap(l)]
	for at := range l {
		l[at] = -99
	}
}

// lent is a function all of whose lists have spare room.
func lent() api.Func {
	goes := func(from, to, other int) api.Block {
		e := api.End{K: api.EndBranch, A: from, To: to, L: roomy(from, to), Else: other, M: roomy(other)}
		return api.Block{Params: roomy(api.TInt), Ops: []api.Op{{K: api.OpCall, L: roomy(from)}}, End: e}
	}
	f := api.Func{Blocks: []api.Block{goes(0, 1, 2), goes(1, 3, 3), goes(2, 3, 0), goes(3, 2, 1), {}, goes(4, 5, 6)}}
	f.Blocks = f.Blocks[:4]
	return f
}

// whole is a copy of all of a function's memory, its spare room too, to hold it against.
func whole(f api.Func) []api.Block {
	l := slices.Clone(f.Blocks[:cap(f.Blocks)])
	for at := range l {
		b := &l[at]
		for _, place := range []*[]int{&b.Params, &b.End.L, &b.End.M} {
			*place = slices.Clone((*place)[:cap(*place)])
		}
		b.Ops = slices.Clone(b.Ops)
		for at := range b.Ops {
			b.Ops[at].L = slices.Clone(b.Ops[at].L[:cap(b.Ops[at].L)])
		}
	}
	return l
}

// answers are all lists that the package tells of a function.
func answers(f api.Func) [][]int {
	var l [][]int
	for _, b := range f.Blocks {
		l = append(l, cfg.Next(b))
		for _, t := range cfg.Targets(b.End) {
			l = append(l, t.L)
		}
	}
	l = append(l, cfg.Ahead(f)...)
	return append(l, cfg.Order(f), cfg.Deep(f))
}

// Memory: what is handed over is left as it was, and what is answered is new.
func TestMemory(t *testing.T) {
	f := lent()
	kept := whole(f)
	first := answers(f)
	reached := cfg.Reached(f)
	if !reflect.DeepEqual(whole(f), kept) {
		t.Fatal("what was handed over is changed")
	}
	copied := make([][]int, len(first))
	for at, l := range first {
		copied[at] = slices.Clone(l)
	}
	for at, l := range first {
		spilled(l)
		if !reflect.DeepEqual(whole(f), kept) {
			t.Fatal("an answer is what was handed over", at)
		}
		for later := at + 1; later < len(first); later++ {
			if !slices.Equal(first[later], copied[later]) {
				t.Fatal("two answers share", at, later)
			}
		}
	}
	clear(reached[:cap(reached)])
	if !slices.EqualFunc(answers(f), copied, slices.Equal) || slices.Contains(cfg.Reached(f), false) {
		t.Error("what was answered is kept")
	}
}

// Memory: where L and M are one list, or lists in one another, Targets has two all the same.
func TestTargetsOfOneList(t *testing.T) {
	l := roomy(1, 2, 3)
	for _, m := range [][]int{l, l[:2], l[1:], l[:0], l[1:1]} {
		got := cfg.Targets(api.End{K: api.EndBranch, To: 1, L: l, Else: 2, M: m})
		want := []api.Target{{To: 1, L: []int{1, 2, 3}}, {To: 2, L: slices.Clone(m)}}
		for _, x := range got {
			spilled(x.L[len(x.L):])
		}
		if !alike(got, want) {
			t.Fatal(got, want)
		}
		spilled(got[0].L)
		if !alike(got[1:], want[1:]) {
			t.Fatal("two lists share", got, want)
		}
		if spilled(got[1].L); !slices.Equal(l[:cap(l)], []int{1, 2, 3, 71, 72, 73, 74}) {
			t.Fatal("what was handed over is changed", l[:cap(l)])
		}
	}
}
