package calls_test

import (
	"slices"
	"testing"

	"hallmark/api"
	"hallmark/calls"
	"hallmark/show"
	"hallmark/well"
)

// Steps and ends, written shortly.
func num(n int64) api.Op                { return api.Op{K: api.OpInt, N: n} }
func bit(n int64) api.Op                { return api.Op{K: api.OpBool, N: n} }
func object(class int, l ...int) api.Op { return api.Op{K: api.OpNew, N: int64(class), L: l} }
func face(a int) api.Op                 { return api.Op{K: api.OpFace, A: a} }
func call(fun int, l ...int) api.Op     { return api.Op{K: api.OpCall, N: int64(fun), L: l} }
func ask(n, a int, l ...int) api.Op     { return api.Op{K: api.OpAsk, N: int64(n), A: a, L: l} }
func tell(a int) api.Op                 { return api.Op{K: api.OpTell, A: a} }
func laid(o api.Op) api.Op              { o.Stack = true; return o }
func ret(a int) api.End                 { return api.End{K: api.EndRet, A: a} }
func jump(to int, l ...int) api.End     { return api.End{K: api.EndJump, To: to, L: l} }

func branch(a, then, other int) api.End {
	return api.End{K: api.EndBranch, A: a, To: then, Else: other}
}

func to(l ...int) []int { return l }

func each(l ...[]int) [][]int { return l }

// block is a block, fun a function, written shortly.
func block(params []int, end api.End, ops ...api.Op) api.Block {
	return api.Block{Params: params, Ops: ops, End: end}
}

func fun(tells int, blocks ...api.Block) api.Func { return api.Func{Ret: tells, Blocks: blocks} }

const none = api.TNone

// method is the number by which net names method n, which is asked.
func method(n int) int { return -1 - n }

// net is a program whose classes have these methods, and whose function n calls, or asks, those of l[n], one behind the other. Each but function 0 is of a face, and may be a method.
func net(methods [][]int, l ...[]int) *api.Prog {
	p := new(api.Prog)
	for range methods[0] {
		p.Sigs = append(p.Sigs, api.Sig{Ret: none})
	}
	for _, own := range methods {
		p.Classes = append(p.Classes, api.Class{Methods: own})
	}
	for n, runs := range l {
		b := block(to(api.TFace), ret(0))
		tells, seen := none, 0
		if n == 0 {
			b, tells, seen = block(nil, ret(0), num(7), object(0), face(1)), api.TInt, 2
		}
		for _, x := range runs {
			switch {
			case x < 0:
				b.Ops = append(b.Ops, ask(-1-x, seen))
			case x == 0:
				b.Ops = append(b.Ops, call(0))
			default:
				b.Ops = append(b.Ops, call(x, seen))
			}
		}
		p.Funcs = append(p.Funcs, fun(tells, b))
	}
	return p
}

// plain is a net in which nothing is asked.
func plain(l ...[]int) *api.Prog { return net(each(nil), l...) }

// answers are all that is told of a program.
type answers struct {
	sites                 [][]api.Site // of functions -1 to the one behind the last
	may                   [][]int      // of some steps
	callees               [][]int
	groups, upward, makes []int
}

// some are steps of which May is asked: calls of what is there, and what is not, and another one.
func some(p *api.Prog) []api.Op {
	var l []api.Op
	for n := -1; n <= len(p.Funcs); n++ {
		l = append(l, call(n))
	}
	for n := -1; n <= len(p.Sigs); n++ {
		l = append(l, ask(n, 0))
	}
	return append(l, num(0))
}

// told is all that is told of a program, without more.
func told(p *api.Prog) answers {
	var a answers
	for n := -1; n <= len(p.Funcs); n++ {
		a.sites = append(a.sites, calls.Sites(p, n))
	}
	for _, o := range some(p) {
		a.may = append(a.may, calls.May(p, o))
	}
	a.callees, a.groups, a.upward, a.makes = calls.Callees(p), calls.Groups(p), calls.Upward(p), calls.Makes(p)
	return a
}

// asked is told, too; it asks that the program stays as it is, and that answers are memory of their own.
func asked(t *testing.T, p *api.Prog) answers {
	t.Helper()
	before := clone(p)
	a, b := told(p), told(p)
	own(t, b)
	if c := told(p); !alike(a, c) {
		t.Fatalf("two answers share memory: %+v, and %+v", a, c)
	}
	if !exact(p, before) {
		t.Fatal("the program is changed")
	}
	return a
}

// own scribbles over all lists, their spare room too, and asks that none of them is another one's.
func own(t *testing.T, a answers) {
	t.Helper()
	l := slices.Concat(a.may, a.callees, each(a.groups, a.upward, a.makes))
	for n := range l {
		l[n] = l[n][:cap(l[n])]
		for at := range l[n] {
			l[n][at] = -1000 - n
		}
	}
	for n := range l {
		if slices.ContainsFunc(l[n], func(x int) bool { return x != -1000-n }) {
			t.Fatal("two lists share memory")
		}
	}
	for n := range a.sites {
		s := a.sites[n][:cap(a.sites[n])]
		for at := range s {
			s[at] = api.Site{Fun: -1000}
		}
	}
	clear(a.callees[:cap(a.callees)])
}

func alike(a, b answers) bool {
	return slices.EqualFunc(a.sites, b.sites, slices.Equal[[]api.Site]) && lists(a.may, b.may) && lists(a.callees, b.callees) &&
		slices.Equal(a.groups, b.groups) && slices.Equal(a.upward, b.upward) && slices.Equal(a.makes, b.makes)
}

// lists tells whether two lists of lists are one; nil and empty ones are alike.
func lists(a, b [][]int) bool { return slices.EqualFunc(a, b, slices.Equal[[]int]) }

// held asks that what is told of a program is what the model tells.
func held(t *testing.T, p *api.Prog) answers {
	t.Helper()
	got := asked(t, p)
	if want := modelled(p); !alike(got, want) {
		t.Errorf("%+v, not %+v, of\n%s", got, want, show.Prog(p))
	}
	behind(t, p, got)
	return got
}

// behind is P12.4, held against the model's words.
func behind(t *testing.T, p *api.Prog, a answers) {
	t.Helper()
	for at, fun := range a.upward {
		for _, callee := range a.callees[fun] {
			if together := a.groups[fun] >= 0 && a.groups[fun] == a.groups[callee]; !together && !slices.Contains(a.upward[:at], callee) {
				t.Errorf("%d stands ahead of %d, of\n%s", fun, callee, show.Prog(p))
			}
		}
	}
	if slices.Compare(slices.Sorted(slices.Values(a.upward)), upTo(len(p.Funcs))) != 0 {
		t.Errorf("not each function once: %v", a.upward)
	}
}

func upTo(n int) []int {
	l := make([]int, n)
	for at := range l {
		l[at] = at
	}
	return l
}

// nothing asks that nothing is told of a program.
func nothing(t *testing.T, name string, p *api.Prog) {
	t.Helper()
	before := clone(p)
	for fun := -1; fun < 3; fun++ {
		if s := calls.Sites(p, fun); len(s) > 0 {
			t.Errorf("%s: sites of %d: %v", name, fun, s)
		}
	}
	for _, o := range []api.Op{call(0), call(1), ask(0, 0), ask(1, 0), num(0)} {
		if l := calls.May(p, o); len(l) > 0 {
			t.Errorf("%s: May %v: %v", name, o, l)
		}
	}
	if l := calls.Callees(p); len(l) > 0 {
		t.Errorf("%s: Callees %v", name, l)
	}
	for n, l := range each(calls.Groups(p), calls.Upward(p), calls.Makes(p)) {
		if len(l) > 0 {
			t.Errorf("%s: %d: %v", name, n, l)
		}
	}
	if !exact(p, before) {
		t.Errorf("%s: the program is changed", name)
	}
}

// ready asks that a program is well made: else a test by hand is about nothing.
func ready(t *testing.T, name string, p *api.Prog) {
	t.Helper()
	if err := well.Check(p); err != api.OK {
		t.Fatalf("%s: %v\n%s", name, err, show.Prog(p))
	}
}

// clone is a program in memory of its own, with all that plays no part, and the spare room of its lists.
func clone(p *api.Prog) *api.Prog {
	if p == nil {
		return nil
	}
	q := &api.Prog{Sigs: slices.Clone(p.Sigs), Classes: slices.Clone(p.Classes), Funcs: slices.Clone(p.Funcs)}
	for i := range q.Funcs {
		f := &q.Funcs[i]
		f.Blocks = slices.Clone(f.Blocks)
		for j := range f.Blocks {
			f.Blocks[j].Ops = slices.Clone(f.Blocks[j].Ops)
		}
	}
	for _, list := range ints(q) {
		old := *list
		*list = slices.Clone(old[:cap(old)])[:len(old)]
	}
	return q
}

// ints are all lists of numbers of a program.
func ints(p *api.Prog) []*[]int {
	var l []*[]int
	for i := range p.Sigs {
		l = append(l, &p.Sigs[i].Params)
	}
	for i := range p.Classes {
		l = append(l, &p.Classes[i].Fields, &p.Classes[i].Methods)
	}
	for i := range p.Funcs {
		for j := range p.Funcs[i].Blocks {
			b := &p.Funcs[i].Blocks[j]
			l = append(l, &b.Params, &b.End.L, &b.End.M)
			for k := range b.Ops {
				l = append(l, &b.Ops[k].L)
			}
		}
	}
	return l
}

// exact tells whether two programs are the same in all, what plays no part and the spare room of their lists among it.
func exact(p, q *api.Prog) bool {
	if p == nil || q == nil {
		return p == q
	}
	l, m := ints(p), ints(q)
	if len(l) != len(m) {
		return false
	}
	for n := range l {
		a, b := *l[n], *m[n]
		if len(a) != len(b) || !slices.Equal(a[:cap(a)], b[:cap(a)]) {
			return false
		}
	}
	return slices.EqualFunc(p.Sigs, q.Sigs, func(a, b api.Sig) bool { return a.Ret == b.Ret }) &&
		len(p.Classes) == len(q.Classes) &&
		slices.EqualFunc(p.Funcs, q.Funcs, func(f, g api.Func) bool {
			return f.Ret == g.Ret && slices.EqualFunc(f.Blocks, g.Blocks, exactBlock)
		})
}

func exactBlock(a, b api.Block) bool {
	e, f := a.End, b.End
	return e.K == f.K && e.A == f.A && e.To == f.To && e.Else == f.Else && slices.EqualFunc(a.Ops, b.Ops, func(o, x api.Op) bool {
		return o.K == x.K && o.A == x.A && o.B == x.B && o.C == x.C && o.N == x.N && o.S == x.S && o.Stack == x.Stack
	})
}
