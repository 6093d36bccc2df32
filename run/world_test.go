package run_test

import (
	"math"
	"slices"
	"testing"

	"hallmark/api"
	"hallmark/run"
	"hallmark/show"
	"hallmark/well"
)

// Steps and ends, written shortly; what makes anything on the stack is made so by laid.
func num(n int64) api.Op                { return api.Op{K: api.OpInt, N: n} }
func bit(n int64) api.Op                { return api.Op{K: api.OpBool, N: n} }
func str(s string) api.Op               { return api.Op{K: api.OpText, S: s} }
func arith(sign, a, b int) api.Op       { return api.Op{K: api.OpArith, N: int64(sign), A: a, B: b} }
func not(a int) api.Op                  { return api.Op{K: api.OpNot, A: a} }
func cat(a, b int) api.Op               { return api.Op{K: api.OpCat, A: a, B: b} }
func long(a int) api.Op                 { return api.Op{K: api.OpLong, A: a} }
func char(a, b int) api.Op              { return api.Op{K: api.OpByte, A: a, B: b} }
func alike(a, b int) api.Op             { return api.Op{K: api.OpAlike, A: a, B: b} }
func object(class int, l ...int) api.Op { return api.Op{K: api.OpNew, N: int64(class), L: l} }
func get(a, n int) api.Op               { return api.Op{K: api.OpGet, N: int64(n), A: a} }
func set(a, n, b int) api.Op            { return api.Op{K: api.OpSet, N: int64(n), A: a, B: b} }
func slice(n int64) api.Op              { return api.Op{K: api.OpMake, N: n} }
func space(a int) api.Op                { return api.Op{K: api.OpRoom, A: a} }
func size(a int) api.Op                 { return api.Op{K: api.OpSize, A: a} }
func at(a, b int) api.Op                { return api.Op{K: api.OpAt, A: a, B: b} }
func put(a, b, c int) api.Op            { return api.Op{K: api.OpPut, A: a, B: b, C: c} }
func table() api.Op                     { return api.Op{K: api.OpTable} }
func enter(a, b, c int) api.Op          { return api.Op{K: api.OpEnter, A: a, B: b, C: c} }
func look(a, b int) api.Op              { return api.Op{K: api.OpLook, A: a, B: b} }
func count(a int) api.Op                { return api.Op{K: api.OpCount, A: a} }
func key(a, b int) api.Op               { return api.Op{K: api.OpKey, A: a, B: b} }
func face(a int) api.Op                 { return api.Op{K: api.OpFace, A: a} }
func call(fun int, l ...int) api.Op     { return api.Op{K: api.OpCall, N: int64(fun), L: l} }
func ask(n, a int, l ...int) api.Op     { return api.Op{K: api.OpAsk, N: int64(n), A: a, L: l} }
func tell(a int) api.Op                 { return api.Op{K: api.OpTell, A: a} }
func laid(o api.Op) api.Op              { o.Stack = true; return o }
func ret(a int) api.End                 { return api.End{K: api.EndRet, A: a} }
func stop(a int) api.End                { return api.End{K: api.EndStop, A: a} }
func jump(to int, l ...int) api.End     { return api.End{K: api.EndJump, To: to, L: l} }

func branch(a, then int, l []int, other int, m []int) api.End {
	return api.End{K: api.EndBranch, A: a, To: then, L: l, Else: other, M: m}
}

func to(l ...int) []int { return l }

func numbers(l ...int64) []int64 { return l }

func texts(l ...string) []string { return l }

// block is a block, fun a function, alone a program of functions alone, written shortly.
func block(params []int, end api.End, ops ...api.Op) api.Block {
	return api.Block{Params: params, Ops: ops, End: end}
}

func fun(tells int, blocks ...api.Block) api.Func { return api.Func{Ret: tells, Blocks: blocks} }

func alone(funcs ...api.Func) *api.Prog { return &api.Prog{Funcs: funcs} }

// one is a program of one function, of one block without parameters.
func one(end api.End, ops ...api.Op) *api.Prog { return alone(fun(api.TInt, block(nil, end, ops...))) }

// tells is a function that tells text s, and then nothing; its one parameter is a face: it may be a method without more.
func tells(s string) api.Func {
	return fun(none, block(to(api.TFace), ret(0), str(s), tell(1)))
}

const none = api.TNone

// plenty is more of a heap, and of fuel, than the programs written by hand take, but for those that are about that.
const plenty = 1 << 18

// alikeOutcomes tells whether two outcomes are one; nil and empty traces are alike.
func alikeOutcomes(a, b api.Outcome) bool {
	return a.End == b.End && a.Code == b.Code && slices.Equal(a.Trace, b.Trace) && a.Used == b.Used && a.Makes == b.Makes && a.Steps == b.Steps
}

// ran is what comes of a run; it asks that the run changes nothing that it is handed, and that another one comes to the same in memory of its own.
func ran(t *testing.T, p *api.Prog, in []int64, limit, fuel int) api.Outcome {
	t.Helper()
	before, handed := clone(p), slices.Clone(in)
	x := run.Run(p, in, limit, fuel)
	trace := slices.Clone(x.Trace)
	y := run.Run(p, in, limit, fuel)
	for n := range y.Trace[:cap(y.Trace)] {
		y.Trace[:cap(y.Trace)][n] = "another"
	}
	if !slices.Equal(x.Trace, trace) {
		t.Fatal("two runs share a trace")
	}
	y.Trace = trace
	if again := run.Run(p, in, limit, fuel); !alikeOutcomes(x, again) || !alikeOutcomes(x, y) {
		t.Fatalf("two runs: %+v, and %+v", x, again)
	}
	if !exact(p, before) || !slices.Equal(in, handed) {
		t.Fatal("a run changes what it is handed")
	}
	return x
}

// comes asks what comes of a run: of the program, and of the model.
func comes(t *testing.T, name string, p *api.Prog, in []int64, limit, fuel int, want api.Outcome) {
	t.Helper()
	if got := ran(t, p, in, limit, fuel); !alikeOutcomes(got, want) {
		t.Errorf("%s: of room %d, fuel %d: %+v, not %+v", name, limit, fuel, got, want)
	}
	if got := modelled(p, in, limit, fuel); !alikeOutcomes(got, want) {
		t.Errorf("%s: of room %d, fuel %d: %+v of the model, not %+v", name, limit, fuel, got, want)
	}
}

// ready asks that a program is well made: else a test by hand is about nothing.
func ready(t *testing.T, name string, p *api.Prog) {
	t.Helper()
	if err := well.Check(p); err != api.OK {
		t.Fatalf("%s: %v\n%s", name, err, show.Prog(p))
	}
}

// scene is a program written by hand, and what comes of it.
type scene struct {
	name string
	p    *api.Prog
	in   []int64
	want api.Outcome
}

// played asks of each scene what comes, with plenty of room and fuel; and with just so much of fuel as it takes, and of room.
func played(t *testing.T, scenes []scene) {
	t.Helper()
	for _, s := range scenes {
		ready(t, s.name, s.p)
		comes(t, s.name, s.p, s.in, plenty, plenty, s.want)
		comes(t, s.name+", just so", s.p, s.in, s.want.Used, s.want.Steps, s.want)
		if s.want.Steps == 0 {
			continue
		}
		short := ran(t, s.p, s.in, plenty, s.want.Steps-1)
		if short.End != api.NoFuel || short.Code != 0 || short.Steps != s.want.Steps-1 {
			t.Errorf("%s: of one step less: %+v", s.name, short)
		}
	}
}

// clone is a program in memory of its own, with all that plays no part, and the spare room of its lists.
func clone(p *api.Prog) *api.Prog {
	if p == nil {
		return nil
	}
	q := &api.Prog{Sigs: slices.Clone(p.Sigs), Classes: slices.Clone(p.Classes), Funcs: slices.Clone(p.Funcs)}
	for i := range q.Funcs {
		f := &q.Funcs[i]
		f.Blocks = slices.Clone(f.Blocks)
		for j := range f.Blocks {
			f.Blocks[j].Ops = slices.Clone(f.Blocks[j].Ops)
		}
	}
	for _, list := range lists(q) {
		old := *list
		*list = slices.Clone(old[:cap(old)])[:len(old)]
	}
	return q
}

// lists are all lists of numbers of a program.
func lists(p *api.Prog) []*[]int {
	var l []*[]int
	for i := range p.Sigs {
		l = append(l, &p.Sigs[i].Params)
	}
	for i := range p.Classes {
		l = append(l, &p.Classes[i].Fields, &p.Classes[i].Methods)
	}
	for i := range p.Funcs {
		for j := range p.Funcs[i].Blocks {
			b := &p.Funcs[i].Blocks[j]
			l = append(l, &b.Params, &b.End.L, &b.End.M)
			for k := range b.Ops {
				l = append(l, &b.Ops[k].L)
			}
		}
	}
	return l
}

// exact tells whether two programs are the same in all, what plays no part and the spare room of their lists among it.
func exact(p, q *api.Prog) bool {
	if p == nil || q == nil {
		return p == q
	}
	l, m := lists(p), lists(q)
	if len(l) != len(m) {
		return false
	}
	for n := range l {
		a, b := *l[n], *m[n]
		if len(a) != len(b) || !slices.Equal(a[:cap(a)], b[:cap(a)]) {
			return false
		}
	}
	return slices.EqualFunc(p.Sigs, q.Sigs, func(a, b api.Sig) bool { return a.Ret == b.Ret }) &&
		len(p.Classes) == len(q.Classes) &&
		slices.EqualFunc(p.Funcs, q.Funcs, func(f, g api.Func) bool {
			return f.Ret == g.Ret && slices.EqualFunc(f.Blocks, g.Blocks, exactBlock)
		})
}

func exactBlock(a, b api.Block) bool {
	return a.End.K == b.End.K && a.End.A == b.End.A && a.End.To == b.End.To && a.End.Else == b.End.Else && slices.EqualFunc(a.Ops, b.Ops, func(o, q api.Op) bool {
		return o.K == q.K && o.A == q.A && o.B == q.B && o.C == q.C && o.N == q.N && o.S == q.S && o.Stack == q.Stack
	})
}

const (
	least    = math.MinInt64
	greatest = math.MaxInt64
)
