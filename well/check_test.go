package well_test

import (
	"math"
	"slices"
	"strings"
	"testing"

	"hallmark/api"
	"hallmark/code"
	"hallmark/well"
)

// P9.2: what is well made, and stays so when it is turned about.
func TestCheckWellMade(t *testing.T) {
	for name, p := range map[string]*api.Prog{
		"the chapter's example":       alone(seven()),
		"world":                       world(),
		"function 0 of numbers":       alone(fun(0, block(to(0, 0, 0), ret(2)))),
		"a stop in the first block":   alone(fun(0, block(to(0), stop(0)))),
		"an endless loop":             alone(fun(0, block(nil, jump(1)), block(nil, jump(1)))),
		"nothing to tell, no values":  beside(fun(none, block(nil, ret(0)))),
		"nothing to tell, and a stop": beside(fun(none, block(to(0), stop(0)))),
		"calls itself":                alone(fun(0, block(nil, ret(0), call(0)))),
	} {
		if err := well.Check(p); err != api.OK {
			t.Error(name, err)
		}
	}
}

// change turns world into another program.
type change struct {
	name string
	by   func(p *api.Prog)
}

// turned is world, turned by a change.
func (c change) turned() *api.Prog {
	p := world()
	c.by(p)
	return p
}

// opOf is the step at of block 0 of a function.
func opOf(p *api.Prog, fun, at int) *api.Op { return &p.Funcs[fun].Blocks[0].Ops[at] }

// endOf is the end of a block of a function.
func endOf(p *api.Prog, fun, block int) *api.End { return &p.Funcs[fun].Blocks[block].End }

// lays adds a function that nobody calls.
func lays(f api.Func) func(p *api.Prog) {
	return func(p *api.Prog) { p.Funcs = append(p.Funcs, f) }
}

// P9.2: changes that no rule forbids.
var allowed = []change{
	{"a sig's parameters of each type", func(p *api.Prog) { p.Sigs[2].Params = to(0, 1, 2, 3, 4, 5, 6, 7) }},
	{"a sig that tells nothing", func(p *api.Prog) { p.Sigs[2].Ret = none }},
	{"a sig that tells the last class", func(p *api.Prog) { p.Sigs[2].Ret = 7 }},
	{"fields of each type, its own among them", func(p *api.Prog) { p.Classes[1].Fields = to(0, 1, 2, 3, 4, 5, 6, 7) }},
	{"methods far below 0", func(p *api.Prog) { p.Classes[1].Methods = to(math.MinInt, -5, -1) }},
	{"methods that are none of any class", func(p *api.Prog) { p.Classes[0].Methods = to(-1, -1, -1) }},
	{"both classes with one method", func(p *api.Prog) { p.Classes[1].Methods = to(fAsked, fShown, -1) }},
	{"a function that tells nothing", lays(fun(none, block(nil, ret(0))))},
	{"functions that tell each type", func(p *api.Prog) {
		for tells := range 8 {
			p.Funcs = append(p.Funcs, fun(tells, block(to(tells), ret(0))))
		}
	}},
	{"parameters of each type, of another block too", lays(fun(none, block(to(0, 1, 2, 3, 4, 5, 6, 7), jump(1, 0, 1, 2, 3, 4, 5, 6, 7)), block(to(0, 1, 2, 3, 4, 5, 6, 7), ret(0))))},
	{"a block that goes to itself", lays(fun(none, block(to(1), jump(1, 0)), block(to(1), branch(1, 1, to(1), 2, nil)), block(nil, ret(0))))},
	{"both ways to one block", lays(fun(0, block(to(1, 0, 0), branch(0, 1, to(1), 1, to(2))), block(to(0), ret(3))))},
	{"blocks whose order is not theirs", lays(fun(0, block(nil, jump(2), num(1)), block(nil, ret(2), add(2, 2)), block(nil, jump(1), add(0, 0))))},
	{"what plays no part in steps", func(p *api.Prog) {
		for at := range p.Funcs[fMain].Blocks[0].Ops {
			o := opOf(p, fMain, at)
			o.C, o.L, o.S, o.Stack = 99, to(-1, 99), strings.Repeat("x", 65), true
		}
		opOf(p, fMain, 1).A, opOf(p, fMain, 1).B = -1, 99
	}},
	{"what plays no part in ends", func(p *api.Prog) {
		*endOf(p, fMain, 1) = api.End{K: api.EndJump, To: 3, L: to(5), A: -1, Else: 99, M: to(-1, 99)}
		*endOf(p, fMain, 4) = api.End{K: api.EndRet, A: 11, To: 99, L: to(-1), Else: -1, M: to(99)}
		*endOf(p, fShown, 0) = api.End{K: api.EndRet, To: 99, L: to(-1), Else: -1, M: to(99)}
		*endOf(p, fCalled, 2) = api.End{K: api.EndStop, A: 0, To: -1, L: to(-1), Else: 99, M: to(99)}
	}},
	{"a ret of nothing, where there is a value 0 that is nothing", lays(fun(none, block(nil, ret(0), call(fTelling))))},
	{"steps that nobody needs", lays(fun(none, block(to(0), ret(0), tell(0), tell(0), num(1))))},
	{"a text of 64 bytes", func(p *api.Prog) { opOf(p, fWork, 2).S = strings.Repeat("x", 64) }},
	{"a slice of 128 numbers", func(p *api.Prog) { opOf(p, fWork, 12).N = 128 }},
	{"a face that is asked as it was handed in", lays(fun(none, block(to(5), ret(0), api.Op{K: api.OpAsk, N: 1, A: 0})))},
}

// fTelling is where lays puts a function: it calls itself there.
const fTelling = 6

func TestCheckAllowed(t *testing.T) {
	for _, c := range allowed {
		if err := well.Check(c.turned()); err != api.OK {
			t.Error(c.name, err)
		}
	}
}

// P9.2: each rule of sigs, classes and functions, broken alone.
var headless = []change{
	{"sig: a parameter of no type", func(p *api.Prog) { p.Sigs[2].Params[0] = none }},
	{"sig: a parameter below all types", func(p *api.Prog) { p.Sigs[2].Params[0] = -2 }},
	{"sig: a pointer to no class", func(p *api.Prog) { p.Sigs[2].Params[0] = 8 }},
	{"sig: a later parameter", func(p *api.Prog) { p.Sigs[2].Params = to(0, 0, 8) }},
	{"sig: tells what is below none", func(p *api.Prog) { p.Sigs[2].Ret = -2 }},
	{"sig: tells a pointer to no class", func(p *api.Prog) { p.Sigs[2].Ret = 8 }},
	{"class: a field of no type", func(p *api.Prog) { p.Classes[1].Fields = to(none) }},
	{"class: a field below all types", func(p *api.Prog) { p.Classes[1].Fields = to(0, -2) }},
	{"class: a pointer to no class", func(p *api.Prog) { p.Classes[1].Fields = to(0, 1, 8) }},
	{"class: a method less", func(p *api.Prog) { p.Classes[0].Methods = to(fAsked, -1) }},
	{"class: a method more", func(p *api.Prog) { p.Classes[0].Methods = to(fAsked, -1, -1, -1) }},
	{"class: no methods", func(p *api.Prog) { p.Classes[1].Methods = nil }},
	{"class: a method that is no function", func(p *api.Prog) { p.Classes[1].Methods[1] = 6 }},
	{"class: a method far off", func(p *api.Prog) { p.Classes[1].Methods[2] = math.MaxInt }},
	{"class: a method of another sig", func(p *api.Prog) { p.Classes[1].Methods = to(-1, -1, fShown) }},
	{"class: a method without parameters", func(p *api.Prog) {
		p.Classes[1].Methods[1] = 6
		lays(fun(none, block(nil, ret(0))))(p)
	}},
	{"class: a method whose first parameter is no face", func(p *api.Prog) {
		p.Classes[1].Methods[1] = 6
		lays(fun(none, block(to(7), ret(0))))(p)
	}},
	{"class: a method whose face comes last", func(p *api.Prog) {
		p.Classes[1].Methods[0] = 6
		lays(fun(0, block(to(2, 7, 5), ret(3), num(1))))(p)
	}},
	{"class: a method with a parameter more", func(p *api.Prog) {
		p.Classes[1].Methods[1] = 6
		lays(fun(none, block(to(5, 0), ret(0))))(p)
	}},
	{"class: a method with a parameter less", func(p *api.Prog) {
		p.Classes[1].Methods[0] = 6
		lays(fun(0, block(to(5, 2), ret(2), num(1))))(p)
	}},
	{"class: a method with another first parameter", func(p *api.Prog) {
		p.Classes[1].Methods[0] = 6
		lays(fun(0, block(to(5, 0, 7), ret(1))))(p)
	}},
	{"class: a method with another last parameter", func(p *api.Prog) {
		p.Classes[1].Methods[0] = 6
		lays(fun(0, block(to(5, 2, 6), ret(3), num(1))))(p)
	}},
	{"class: a method that tells another type", func(p *api.Prog) {
		p.Classes[1].Methods[0] = 6
		lays(fun(2, block(to(5, 2, 7), ret(1))))(p)
	}},
	{"class: a method that tells nothing", func(p *api.Prog) {
		p.Classes[1].Methods[0] = 6
		lays(fun(none, block(to(5, 2, 7), ret(0))))(p)
	}},
	{"class: a method that tells what it should not", func(p *api.Prog) {
		p.Classes[1].Methods[1] = 6
		lays(fun(5, block(to(5), ret(0))))(p)
	}},
	{"no functions, but sigs and classes", func(p *api.Prog) {
		p.Funcs = nil
		p.Classes[0].Methods, p.Classes[1].Methods = to(-1, -1, -1), to(-1, -1, -1)
	}},
	{"function 0: a truth as its only parameter", func(p *api.Prog) { p.Funcs[0] = fun(0, block(to(1), ret(1), num(1))) }},
	{"function 0: a text as its last parameter", func(p *api.Prog) { p.Funcs[0] = fun(0, block(to(0, 0, 2), ret(0))) }},
	{"function 0: a pointer as its first parameter", func(p *api.Prog) { p.Funcs[0] = fun(0, block(to(6, 0), ret(1))) }},
	{"function 0: tells a truth", func(p *api.Prog) { p.Funcs[0] = fun(1, block(nil, ret(0), bit(1))) }},
	{"function 0: tells a text", func(p *api.Prog) { p.Funcs[0] = fun(2, block(nil, ret(0), str(""))) }},
	{"function 0: tells nothing", func(p *api.Prog) { p.Funcs[0] = fun(none, block(nil, ret(0))) }},
	{"a function that tells what is below none", lays(fun(-2, block(to(0), stop(0))))},
	{"a function that tells a pointer to no class", lays(fun(8, block(to(0), stop(0))))},
	{"a function that tells a type far off", lays(fun(math.MaxInt, block(to(0), stop(0))))},
	{"a function without blocks", lays(fun(0))},
	{"function 0 without blocks", func(p *api.Prog) { p.Funcs[0].Blocks = nil }},
	{"a method without blocks", func(p *api.Prog) { p.Funcs[fShown].Blocks = nil }},
	{"a parameter of no type", lays(fun(none, block(to(none), ret(0))))},
	{"a parameter below all types", lays(fun(none, block(to(0, -2), ret(0))))},
	{"a parameter that points to no class", lays(fun(none, block(to(0, 0, 8), ret(0))))},
	{"a parameter of no type of another block", lays(fun(none, block(to(0), jump(1, 1), tell(0)), block(to(none), ret(0))))},
}

// P9.2: each rule of blocks, steps and ends, broken alone.
var bodiless = []change{
	{"a block that is not met", lays(fun(none, block(nil, ret(0)), block(nil, ret(0))))},
	{"a block that is not met, and leads on", lays(fun(none, block(nil, jump(2)), block(nil, jump(2)), block(nil, ret(0))))},
	{"a block that is met from itself alone", lays(fun(none, block(nil, ret(0)), block(nil, jump(1))))},
	{"two blocks that are met from one another alone", lays(fun(none, block(nil, ret(0)), block(nil, jump(2)), block(nil, jump(1))))},
	{"a block of function 0 that is not met", func(p *api.Prog) { p.Funcs[0] = fun(0, block(to(0), ret(0)), block(to(0), ret(1))) }},
	{"a jump to block 0, from itself", lays(fun(none, block(nil, jump(0))))},
	{"a jump to block 0, with what it wants", lays(fun(none, block(to(0), jump(1)), block(nil, jump(0, 0))))},
	{"a branch to block 0", lays(fun(none, block(nil, branch(0, 0, nil, 1, nil), bit(1)), block(nil, ret(0))))},
	{"a branch to block 0 else", lays(fun(none, block(nil, branch(0, 1, nil, 0, nil), bit(1)), block(nil, ret(0))))},
	{"a jump to a block below 0", lays(fun(none, block(nil, jump(-1))))},
	{"a jump behind the last block", lays(fun(none, block(nil, jump(1))))},
	{"a jump far off", lays(fun(none, block(nil, jump(math.MaxInt))))},
	{"a branch to a block below 0", lays(fun(none, block(nil, branch(0, -1, nil, 1, nil), bit(1)), block(nil, ret(0))))},
	{"a branch behind the last block", lays(fun(none, block(nil, branch(0, 2, nil, 1, nil), bit(1)), block(nil, ret(0))))},
	{"a branch to a block below 0 else", lays(fun(none, block(nil, branch(0, 1, nil, -1, nil), bit(1)), block(nil, ret(0))))},
	{"a branch behind the last block else", lays(fun(none, block(nil, branch(0, 1, nil, 2, nil), bit(1)), block(nil, ret(0))))},
	{"a jump with a value less", func(p *api.Prog) { endOf(p, fMain, 1).L = nil }},
	{"a jump with a value more", func(p *api.Prog) { endOf(p, fMain, 1).L = to(5, 5) }},
	{"a jump with values to a block that wants none", lays(fun(none, block(to(0), jump(1, 0)), block(nil, ret(0))))},
	{"a branch with a value less", func(p *api.Prog) { endOf(p, fMain, 0).L = nil }},
	{"a branch with a value more", func(p *api.Prog) { endOf(p, fMain, 0).L = to(0, 0) }},
	{"a branch with a value less else", func(p *api.Prog) { endOf(p, fMain, 3).M = to(9) }},
	{"a branch with a value more else", func(p *api.Prog) { endOf(p, fMain, 0).M = to(0) }},
	{"a branch with both lists turned about", func(p *api.Prog) { endOf(p, fMain, 0).L, endOf(p, fMain, 0).M = nil, to(0) }},
	{"a jump with a value of another type", func(p *api.Prog) { endOf(p, fMain, 1).L[0] = 2 }},
	{"a branch with a value of another type", func(p *api.Prog) { endOf(p, fMain, 0).L[0] = 2 }},
	{"a branch with a value of another type else", func(p *api.Prog) { endOf(p, fMain, 3).M[1] = 9 }},
	{"a branch with values in another order", func(p *api.Prog) { endOf(p, fMain, 3).M = to(10, 9) }},
	{"a jump with a pointer to another class", lays(fun(none, block(to(6, 7), jump(1, 1)), block(to(6), ret(0))))},
	{"a jump with a value that is nothing", func(p *api.Prog) { endOf(p, fMain, 1).L[0] = 6 }},
	{"a jump with a value that is not seen", func(p *api.Prog) { endOf(p, fMain, 2).L[0] = 5 }},
	{"a jump with its own block's parameter", lays(fun(none, block(nil, jump(1, 0)), block(to(0), ret(0))))},
	{"a branch with a value that is not seen", func(p *api.Prog) { endOf(p, fMain, 0).L[0] = 4 }},
	{"a branch with a value that is not seen else", func(p *api.Prog) { endOf(p, fMain, 3).M[0] = 11 }},
	{"a jump with a value that is none", func(p *api.Prog) { endOf(p, fMain, 1).L[0] = 14 }},
	{"a jump with a value below 0", func(p *api.Prog) { endOf(p, fMain, 1).L[0] = -1 }},

	{"a step that can't be", func(p *api.Prog) { opOf(p, fWork, 1).N = 2 }},
	{"a step of another type", func(p *api.Prog) { opOf(p, fWork, 6).A = 0 }},
	{"a step of no sign", func(p *api.Prog) { opOf(p, fWork, 3).N = 14 }},
	{"a step of no class", func(p *api.Prog) { opOf(p, fWork, 9).N = 2 }},
	{"a step of no field", func(p *api.Prog) { opOf(p, fWork, 10).N = 3 }},
	{"a step of another field", func(p *api.Prog) { opOf(p, fWork, 11).N = 0 }},
	{"a slice too great", func(p *api.Prog) { opOf(p, fWork, 12).N = 129 }},
	{"a call of no function", func(p *api.Prog) { opOf(p, fWork, 23).N = 6 }},
	{"a call with a value less", func(p *api.Prog) { opOf(p, fWork, 23).L = nil }},
	{"an ask of no method", func(p *api.Prog) { opOf(p, fWork, 24).N = 3 }},
	{"an ask of a pointer", func(p *api.Prog) { opOf(p, fWork, 24).A = 6 }},
	{"the last step of a later block", func(p *api.Prog) { p.Funcs[fMain].Blocks[4].Ops[0].A = 11 }},
	{"a step of itself", lays(fun(none, block(to(0), ret(0), add(0, 1))))},
	{"a step of a later one", lays(fun(none, block(nil, ret(0), long(1), str(""))))},
	{"a step of a parameter of a side", lays(fun(none, block(to(1, 0), branch(0, 1, to(1), 2, nil)), block(to(0), ret(0)), block(nil, ret(0), tell(2))))},
	{"a step of a side's step, behind the join", lays(fun(none, block(to(1), branch(0, 1, nil, 2, nil)), block(nil, jump(2), num(1)), block(nil, ret(0), tell(1))))},
	{"a step of what a block that it leads to has", lays(fun(none, block(nil, jump(1, 1), add(2, 2), num(1)), block(to(0), ret(0))))},
	{"a step in a loop, of a later one", lays(fun(none, block(to(1), jump(1, 0)), block(to(1), jump(1, 1), api.Op{K: api.OpNot, A: 3}, bit(1))))},
	{"a step of a value that is none", func(p *api.Prog) { opOf(p, fWork, 3).A = 34 }},
	{"a step of a value below 0", func(p *api.Prog) { opOf(p, fWork, 3).B = -1 }},
	{"a step of what is nothing", func(p *api.Prog) { opOf(p, fWork, 25).A = 19 }},
	{"a step of a call that tells nothing", lays(fun(none, block(nil, ret(0), call(fTelling), tell(0))))},
	{"a call with what is nothing", lays(fun(none, block(to(0), ret(0), tell(0), call(fCalled, 1))))},

	{"a branch of a number", func(p *api.Prog) { endOf(p, fMain, 0).A = 0 }},
	{"a branch of a number that is 1", func(p *api.Prog) { endOf(p, fMain, 3).A = 9 }},
	{"a branch of what is not seen", func(p *api.Prog) { endOf(p, fMain, 3).A = 12 }},
	{"a branch of what is nothing", lays(fun(none, block(to(0), branch(1, 1, nil, 1, nil), tell(0)), block(nil, ret(0))))},
	{"a branch of no value", func(p *api.Prog) { endOf(p, fMain, 3).A = -1 }},
	{"a stop of a truth", func(p *api.Prog) { endOf(p, fCalled, 2).A = 1 }},
	{"a stop of a text", lays(fun(none, block(to(2), stop(0))))},
	{"a stop of what is nothing", lays(fun(none, block(to(0), stop(1), tell(0))))},
	{"a stop of what is not seen", lays(fun(none, block(to(1), branch(0, 1, nil, 2, nil)), block(nil, ret(0), num(1)), block(nil, stop(1))))},
	{"a stop of no value", func(p *api.Prog) { endOf(p, fCalled, 2).A = 3 }},
	{"a ret of another type", func(p *api.Prog) { endOf(p, fMain, 4).A = 12 }},
	{"a ret of a pointer to another class", func(p *api.Prog) { endOf(p, fIdle, 0).A = 0 }},
	{"a ret of what is nothing", lays(fun(0, block(to(0), ret(1), tell(0))))},
	{"a ret of what is not seen", lays(fun(0, block(to(1), branch(0, 1, nil, 2, nil)), block(nil, ret(1), num(1)), block(nil, ret(1))))},
	{"a ret of no value", lays(fun(0, block(nil, ret(0))))},
	{"a ret below 0", lays(fun(0, block(to(0), ret(-1))))},
	{"a ret of nothing, of a value", lays(fun(none, block(to(0, 0), ret(1))))},
	{"a ret of nothing, of no value", lays(fun(none, block(nil, ret(1))))},
	{"a ret of nothing, below 0", lays(fun(none, block(nil, ret(-1))))},
	{"a ret of nothing, in a later block", lays(fun(none, block(to(1), branch(0, 1, nil, 2, nil)), block(nil, ret(0)), block(nil, ret(1))))},
}

func TestCheckRefused(t *testing.T) {
	for _, c := range slices.Concat(headless, bodiless) {
		p := c.turned()
		if _, err := code.Encode(p); err != api.OK {
			t.Fatal(c.name, "has no bytes:", err)
		}
		before := clone(p)
		if err := well.Check(p); err != api.ErrForm {
			t.Error(c.name, err)
		}
		if !exact(p, before) {
			t.Error(c.name, "is changed")
		}
	}
}

// P9.2, the same of programs without sigs and classes.
func TestCheckSmall(t *testing.T) {
	for name, p := range map[string]*api.Prog{
		"nothing at all":          {},
		"a class, but no methods": {Sigs: []api.Sig{{Ret: 0}}, Classes: []api.Class{{}}, Funcs: []api.Func{seven()}},
		"a method, but no sigs":   {Classes: []api.Class{{Methods: to(-1)}}, Funcs: []api.Func{seven()}},
		"a pointer, but no class": beside(fun(none, block(to(6), ret(0)))),
		"function 0 tells 8":      alone(fun(8, block(nil, stop(0), num(1)))),
		"an empty function":       alone(api.Func{}),
		"an empty block":          alone(api.Func{Blocks: []api.Block{{}}}),
	} {
		if err := well.Check(p); err != api.ErrForm {
			t.Error(name, err)
		}
	}
	for name, p := range map[string]*api.Prog{
		"a class without methods": {Classes: []api.Class{{Fields: to(6)}}, Funcs: []api.Func{seven()}},
		"a sig without classes":   {Sigs: []api.Sig{{Ret: 0}}, Funcs: []api.Func{seven()}},
	} {
		if err := well.Check(p); err != api.OK {
			t.Error(name, err)
		}
	}
}
