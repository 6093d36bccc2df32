package well_test

import (
	"slices"

	"hallmark/api"
)

// Steps and ends, written shortly.
func num(n int64) api.Op            { return api.Op{K: api.OpInt, N: n} }
func bit(n int64) api.Op            { return api.Op{K: api.OpBool, N: n} }
func str(s string) api.Op           { return api.Op{K: api.OpText, S: s} }
func add(a, b int) api.Op           { return api.Op{K: api.OpArith, N: api.Add, A: a, B: b} }
func less(a, b int) api.Op          { return api.Op{K: api.OpArith, N: api.Less, A: a, B: b} }
func long(a int) api.Op             { return api.Op{K: api.OpLong, A: a} }
func tell(a int) api.Op             { return api.Op{K: api.OpTell, A: a} }
func call(n int64, l ...int) api.Op { return api.Op{K: api.OpCall, N: n, L: l} }
func ret(a int) api.End             { return api.End{K: api.EndRet, A: a} }
func stop(a int) api.End            { return api.End{K: api.EndStop, A: a} }
func jump(to int, l ...int) api.End { return api.End{K: api.EndJump, To: to, L: l} }

func branch(a, then int, l []int, other int, m []int) api.End {
	return api.End{K: api.EndBranch, A: a, To: then, L: l, Else: other, M: m}
}

// block is a block, and fun a function, written shortly.
func block(params []int, end api.End, ops ...api.Op) api.Block {
	return api.Block{Params: params, Ops: ops, End: end}
}

func fun(tells int, blocks ...api.Block) api.Func { return api.Func{Ret: tells, Blocks: blocks} }

// alone is a program of these functions alone.
func alone(funcs ...api.Func) *api.Prog { return &api.Prog{Funcs: funcs} }

// seven is the chapter's example.
func seven() api.Func { return fun(api.TInt, block(nil, ret(0), num(7))) }

// beside is a program whose function 1, which nobody calls, is this one.
func beside(f api.Func) *api.Prog { return alone(seven(), f) }

// The functions of world.
const (
	fMain   = 0 // forks, joins, a loop
	fWork   = 1 // of a value of each type; each kind of step
	fAsked  = 2 // method 0 of class 0
	fShown  = 3 // method 1 of class 1
	fCalled = 4 // called by fWork
	fIdle   = 5 // nobody calls it
)

// world is a well made program, always the same, in memory of its own.
func world() *api.Prog {
	return &api.Prog{
		Sigs: []api.Sig{
			{Params: to(api.TText, api.TPtr+1), Ret: api.TInt},
			{Ret: api.TNone},
			{Params: to(api.TInt), Ret: api.TPtr + 1},
		},
		Classes: []api.Class{
			{Fields: to(api.TInt, api.TText, api.TPtr+1), Methods: to(fAsked, -1, -1)},
			{Methods: to(-2, fShown, -1)},
		},
		Funcs: []api.Func{
			fun(api.TInt,
				block(to(api.TInt, api.TInt), branch(2, 1, to(0), 2, nil), less(0, 1), num(3)),
				block(to(api.TInt), jump(3, 5), add(4, 3), tell(5)),
				block(nil, jump(3, 8), str("x"), long(7)),
				block(to(api.TInt), branch(10, 3, to(9), 4, to(9, 10)), less(9, 3)),
				block(to(api.TInt, api.TBool), ret(11), api.Op{K: api.OpNot, A: 12}),
			),
			work(),
			fun(api.TInt, block(to(api.TFace, api.TText, api.TPtr+1), ret(3), long(1))),
			fun(api.TNone, block(to(api.TFace), ret(0), num(1), tell(1))),
			fun(api.TText,
				block(to(api.TInt), branch(1, 1, nil, 2, nil), less(0, 0)),
				block(nil, ret(2), str("y")),
				block(nil, stop(0)),
			),
			fun(api.TPtr+1, block(to(api.TPtr), ret(1), api.Op{K: api.OpGet, N: 2, A: 0})),
		},
	}
}

// work is a function that has a value of each type, and does a step of each kind.
func work() api.Func {
	params := to(api.TInt, api.TBool, api.TText, api.TSlice, api.TTable, api.TFace, api.TPtr, api.TPtr+1)
	return fun(api.TNone, block(params, ret(0),
		num(5), bit(1), str("ab"), add(0, 8), api.Op{K: api.OpNot, A: 1}, // 8 to 12
		api.Op{K: api.OpCat, A: 2, B: 10}, long(2), api.Op{K: api.OpByte, A: 2, B: 0}, api.Op{K: api.OpAlike, A: 2, B: 10}, // to 16
		api.Op{K: api.OpNew, N: 0, L: to(0, 2, 7)}, api.Op{K: api.OpGet, N: 0, A: 6}, api.Op{K: api.OpSet, N: 1, A: 6, B: 2}, // to 19
		api.Op{K: api.OpMake, N: 4, Stack: true}, api.Op{K: api.OpRoom, A: 0}, api.Op{K: api.OpSize, A: 3}, // to 22
		api.Op{K: api.OpAt, A: 3, B: 0}, api.Op{K: api.OpPut, A: 3, B: 0, C: 8}, api.Op{K: api.OpTable}, // to 25
		api.Op{K: api.OpEnter, A: 4, B: 0, C: 8}, api.Op{K: api.OpLook, A: 4, B: 0}, api.Op{K: api.OpCount, A: 4}, api.Op{K: api.OpKey, A: 4, B: 0}, // to 29
		api.Op{K: api.OpFace, A: 6}, call(fCalled, 0), api.Op{K: api.OpAsk, N: 0, A: 5, L: to(2, 7)}, tell(0), // to 33
	))
}

// ints are all lists of numbers of a program: pointers, so that a test can turn a program into another one.
func ints(p *api.Prog) []*[]int {
	var l []*[]int
	for i := range p.Sigs {
		l = append(l, &p.Sigs[i].Params)
	}
	for i := range p.Classes {
		l = append(l, &p.Classes[i].Fields, &p.Classes[i].Methods)
	}
	for i := range p.Funcs {
		for j := range p.Funcs[i].Blocks {
			b := &p.Funcs[i].Blocks[j]
			l = append(l, &b.Params, &b.End.L, &b.End.M)
			for at := range b.Ops {
				l = append(l, &b.Ops[at].L)
			}
		}
	}
	return l
}

// whole are all single numbers of a program, those in lists among them, but for N.
func whole(p *api.Prog) []*int {
	var l []*int
	for _, list := range ints(p) {
		for at := range *list {
			l = append(l, &(*list)[at])
		}
	}
	for i := range p.Sigs {
		l = append(l, &p.Sigs[i].Ret)
	}
	for i := range p.Funcs {
		l = append(l, &p.Funcs[i].Ret)
		for j := range p.Funcs[i].Blocks {
			b := &p.Funcs[i].Blocks[j]
			l = append(l, &b.End.K, &b.End.A, &b.End.To, &b.End.Else)
			for at := range b.Ops {
				o := &b.Ops[at]
				l = append(l, &o.K, &o.A, &o.B, &o.C)
			}
		}
	}
	return l
}

// longs are the numbers N of all steps.
func longs(p *api.Prog) []*int64 {
	var l []*int64
	for i := range p.Funcs {
		for j := range p.Funcs[i].Blocks {
			for at := range p.Funcs[i].Blocks[j].Ops {
				l = append(l, &p.Funcs[i].Blocks[j].Ops[at].N)
			}
		}
	}
	return l
}

// clone is a program in memory of its own, with all that plays no part.
func clone(p *api.Prog) *api.Prog {
	q := &api.Prog{Sigs: slices.Clone(p.Sigs), Classes: slices.Clone(p.Classes), Funcs: slices.Clone(p.Funcs)}
	for i := range q.Funcs {
		q.Funcs[i] = cloneFunc(q.Funcs[i])
	}
	for _, list := range ints(q) {
		*list = slices.Clone(*list)
	}
	return q
}

func cloneFunc(f api.Func) api.Func {
	f.Blocks = slices.Clone(f.Blocks)
	for at := range f.Blocks {
		b := &f.Blocks[at]
		b.Ops = slices.Clone(b.Ops)
		b.Params, b.End.L, b.End.M = slices.Clone(b.Params), slices.Clone(b.End.L), slices.Clone(b.End.M)
		for i := range b.Ops {
			b.Ops[i].L = slices.Clone(b.Ops[i].L)
		}
	}
	return f
}

// exact tells whether two programs hold the same in all fields, those that play no part among them; nil and empty lists are alike.
func exact(a, b *api.Prog) bool {
	return slices.EqualFunc(a.Sigs, b.Sigs, func(a, b api.Sig) bool { return a.Ret == b.Ret && slices.Equal(a.Params, b.Params) }) &&
		slices.EqualFunc(a.Classes, b.Classes, func(a, b api.Class) bool {
			return slices.Equal(a.Fields, b.Fields) && slices.Equal(a.Methods, b.Methods)
		}) &&
		slices.EqualFunc(a.Funcs, b.Funcs, exactFunc)
}

func exactFunc(a, b api.Func) bool {
	return a.Ret == b.Ret && slices.EqualFunc(a.Blocks, b.Blocks, func(a, b api.Block) bool {
		return slices.Equal(a.Params, b.Params) && slices.EqualFunc(a.Ops, b.Ops, exactOp) &&
			a.End.K == b.End.K && a.End.A == b.End.A && a.End.To == b.End.To && a.End.Else == b.End.Else &&
			slices.Equal(a.End.L, b.End.L) && slices.Equal(a.End.M, b.End.M)
	})
}

func exactOp(a, b api.Op) bool {
	return a.K == b.K && a.A == b.A && a.B == b.B && a.C == b.C && a.N == b.N && a.S == b.S && slices.Equal(a.L, b.L) && a.Stack == b.Stack
}
