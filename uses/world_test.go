package uses_test

import (
	"slices"
	"testing"

	"hallmark/api"
	"hallmark/code"
	"hallmark/show"
	"hallmark/uses"
)

// Steps and ends, written shortly.
func num() api.Op                   { return api.Op{K: api.OpInt, N: 7} }
func bit() api.Op                   { return api.Op{K: api.OpBool, N: 1} }
func tell(a int) api.Op             { return api.Op{K: api.OpTell, A: a} }
func sum(a, b int) api.Op           { return api.Op{K: api.OpArith, N: api.Add, A: a, B: b} }
func call(l ...int) api.Op          { return api.Op{K: api.OpCall, L: l} }
func ret(a int) api.End             { return api.End{K: api.EndRet, A: a} }
func stop(a int) api.End            { return api.End{K: api.EndStop, A: a} }
func jump(to int, l ...int) api.End { return api.End{K: api.EndJump, To: to, L: l} }

func branch(a, then int, l []int, other int, m []int) api.End {
	return api.End{K: api.EndBranch, A: a, To: then, L: l, Else: other, M: m}
}

func to(l ...int) []int { return l }

func each(l ...[]int) [][]int { return l }

// block is a block with so many parameters, fun a function, written shortly.
func block(params int, end api.End, ops ...api.Op) api.Block {
	return api.Block{Params: make([]int, params), Ops: ops, End: end}
}

func fun(tells int, blocks ...api.Block) api.Func { return api.Func{Ret: tells, Blocks: blocks} }

const none = api.TNone

// answers are all that is told of a function.
type answers struct {
	of           [][]api.Site // of values -1 to the one behind the last
	counts       []int
	needed, left [][]int
	most         int
}

// told is all that is told of a function, without more.
func told(f api.Func) answers {
	var a answers
	for value := -1; value <= code.Values(f); value++ {
		a.of = append(a.of, uses.Of(f, value))
	}
	a.counts, a.needed, a.left, a.most = uses.Counts(f), uses.Needed(f), uses.Left(f), uses.Most(f)
	return a
}

// asked is told, too; it asks that the function stays as it is, its lists' spare room too, and that answers are memory of their own.
func asked(t *testing.T, f api.Func) answers {
	t.Helper()
	given, before := roomy(f), roomy(f)
	a, b := told(given), told(given)
	if !alike(a, b) {
		t.Fatalf("two answers: %+v, and %+v", a, b)
	}
	own(t, b)
	if c := told(given); !alike(a, c) {
		t.Fatalf("two answers share memory: %+v, and %+v", a, c)
	}
	if !exact(given, before) {
		t.Fatal("the function is changed")
	}
	return a
}

// own scribbles over all lists, their spare room too, and asks that none of them is another one's.
func own(t *testing.T, a answers) {
	t.Helper()
	l := slices.Concat(a.needed, a.left, each(a.counts))
	for n := range l {
		l[n] = l[n][:cap(l[n])]
		for at := range l[n] {
			l[n][at] = -1000 - n
		}
	}
	for n := range l {
		if slices.ContainsFunc(l[n], func(x int) bool { return x != -1000-n }) {
			t.Fatal("two lists share memory")
		}
	}
	for n := range a.of {
		a.of[n] = a.of[n][:cap(a.of[n])]
		for at := range a.of[n] {
			a.of[n][at] = api.Site{Fun: -1000 - n}
		}
	}
	for n := range a.of {
		if slices.ContainsFunc(a.of[n], func(x api.Site) bool { return x.Fun != -1000-n }) {
			t.Fatal("two lists of places share memory")
		}
	}
	for _, all := range [][][]int{a.needed, a.left} {
		clear(all[:cap(all)])
	}
}

func alike(a, b answers) bool {
	return slices.EqualFunc(a.of, b.of, slices.Equal[[]api.Site]) && slices.Equal(a.counts, b.counts) &&
		lists(a.needed, b.needed) && lists(a.left, b.left) && a.most == b.most
}

// lists tells whether two lists of lists are one; nil and empty ones are alike.
func lists(a, b [][]int) bool { return slices.EqualFunc(a, b, slices.Equal[[]int]) }

// held asks that what is told of a function is what the model tells, and P13.4 of it.
func held(t *testing.T, f api.Func) answers {
	t.Helper()
	got := asked(t, f)
	if want := modelled(f); !alike(got, want) {
		t.Fatalf("%+v, not %+v, of\n%s", got, want, show.Func(f))
	}
	for at, values := range got.left {
		for _, value := range values {
			if !makes(f, at, value) && !slices.Contains(got.needed[at], value) {
				t.Fatalf("block %d leaves %d: it neither makes nor needs it, of\n%s", at, value, show.Func(f))
			}
		}
	}
	return got
}

// roomy is a function in memory of its own, each of whose lists has spare room in which something stands.
func roomy(f api.Func) api.Func {
	f.Blocks = withRoom(f.Blocks, api.Block{Params: to(5), End: jump(0, 1, 2)})
	for at := range f.Blocks {
		b := &f.Blocks[at]
		b.Params, b.Ops = withRoom(b.Params, 77), withRoom(b.Ops, sum(0, 1))
		b.End.L, b.End.M = withRoom(b.End.L, 78), withRoom(b.End.M, 79)
		for n := range b.Ops {
			b.Ops[n].L = withRoom(b.Ops[n].L, 80)
		}
	}
	return f
}

func withRoom[T any](l []T, spare T) []T {
	return append(append(make([]T, 0, len(l)+2), l...), spare, spare)[:len(l)]
}

// exact tells whether two functions are the same in all, what plays no part and the spare room of their lists among it.
func exact(f, g api.Func) bool {
	return f.Ret == g.Ret && len(f.Blocks) == len(g.Blocks) && slices.EqualFunc(whole(f.Blocks), whole(g.Blocks), func(a, b api.Block) bool {
		d, e := a.End, b.End
		return slices.Equal(whole(a.Params), whole(b.Params)) && len(a.Ops) == len(b.Ops) && slices.EqualFunc(whole(a.Ops), whole(b.Ops), exactOp) &&
			d.K == e.K && d.A == e.A && d.To == e.To && d.Else == e.Else && slices.Equal(whole(d.L), whole(e.L)) && slices.Equal(whole(d.M), whole(e.M))
	})
}

func exactOp(a, b api.Op) bool {
	return a.K == b.K && a.A == b.A && a.B == b.B && a.C == b.C && a.N == b.N && a.S == b.S && a.Stack == b.Stack && slices.Equal(whole(a.L), whole(b.L))
}

func whole[T any](l []T) []T { return l[:cap(l)] }
