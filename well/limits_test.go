package well_test

import (
	"slices"
	"strings"
	"testing"

	"hallmark/api"
	"hallmark/code"
	"hallmark/well"
)

// filled is a function of so many steps, in one block behind another, each of at most most.
func filled(steps, most int) api.Func {
	f := api.Func{Ret: api.TInt}
	for left := steps; left > 0; left -= most {
		f.Blocks = append(f.Blocks, block(nil, jump(len(f.Blocks)+1), slices.Repeat([]api.Op{num(0)}, min(left, most))...))
	}
	f.Blocks[len(f.Blocks)-1].End = ret(0)
	return f
}

// crowd is a program of so many functions, classes, sigs.
func crowd(funcs, classes, sigs int) *api.Prog {
	p := &api.Prog{
		Sigs:    slices.Repeat([]api.Sig{{Ret: api.TInt}}, sigs),
		Classes: slices.Repeat([]api.Class{{Methods: slices.Repeat(to(-1), sigs)}}, classes),
		Funcs:   slices.Repeat([]api.Func{seven()}, funcs),
	}
	return p
}

// wide is a function of so many parameters, handed on to a block of as many.
func wide(params int) api.Func {
	l := make([]int, params)
	for at := range l {
		l[at] = at
	}
	types := make([]int, params)
	return fun(none, block(types, jump(1, l...)), block(types, ret(0)))
}

// row is a function of so many blocks.
func row(blocks int) api.Func {
	f := fun(none)
	for at := range blocks {
		f.Blocks = append(f.Blocks, block(nil, jump(at+1)))
	}
	f.Blocks[blocks-1].End = ret(0)
	return f
}

// P9.2: what each bound allows is well made; beyond it Check answers what code.Encode does.
func TestCheckBounds(t *testing.T) {
	for name, x := range map[string]struct {
		most int
		of   func(n int) *api.Prog
	}{
		"functions":        {api.MaxFuncs, func(n int) *api.Prog { return crowd(n, 0, 0) }},
		"classes":          {api.MaxClasses, func(n int) *api.Prog { return crowd(1, n, 0) }},
		"sigs":             {api.MaxSigs, func(n int) *api.Prog { return crowd(1, 1, n) }},
		"blocks":           {api.MaxBlocks, func(n int) *api.Prog { return beside(row(n)) }},
		"steps of a block": {api.MaxOps, func(n int) *api.Prog { return alone(filled(n, n)) }},
		"parameters":       {api.MaxArgs, func(n int) *api.Prog { return beside(wide(n)) }},
		"bytes of a text":  {api.MaxConst, func(n int) *api.Prog { return beside(fun(2, block(nil, ret(0), str(strings.Repeat("x", n))))) }},
		"fields": {api.MaxFields, func(n int) *api.Prog {
			p := crowd(1, 1, 0)
			p.Classes[0].Fields = make([]int, n)
			return p
		}},
		"a sig's parameters": {api.MaxArgs, func(n int) *api.Prog {
			p := crowd(1, 0, 1)
			p.Sigs[0].Params = make([]int, n)
			return p
		}},
	} {
		if err := well.Check(x.of(x.most)); err != api.OK {
			t.Error(name, "as many as there may be:", err)
		}
		if err := well.Check(x.of(x.most + 1)); err != api.ErrLong {
			t.Error(name, "one more:", err)
		}
	}
}

// P9.2: a function has at most MaxValues values, parameters among them; how many a program has plays no part.
func TestCheckValues(t *testing.T) {
	params := func(steps, params int) api.Func {
		f := filled(steps, 500)
		for n := range params {
			b := 1 + n%(len(f.Blocks)-1)
			f.Blocks[b].Params = append(f.Blocks[b].Params, 0)
			f.Blocks[b-1].End.L = append(f.Blocks[b-1].End.L, 0)
		}
		return f
	}
	first := func(steps int) api.Func {
		f := filled(steps, 1000)
		f.Blocks[0].Params = to(0, 0)
		return f
	}
	for _, x := range []struct {
		name string
		p    *api.Prog
		want api.Errno
	}{
		{"700 in one block", alone(filled(700, 700)), api.OK},
		{"700 in two", alone(filled(700, 400)), api.OK},
		{"701 in two", alone(filled(701, 400)), api.ErrLong},
		{"701 in many", alone(filled(701, 20)), api.ErrLong},
		{"700 in many", alone(filled(700, 20)), api.OK},
		{"692 and 8 of the second block", alone(params(692, 8)), api.OK},
		{"693 and 8 of the second block", alone(params(693, 8)), api.ErrLong},
		{"698 and 2 of the first block", alone(first(698)), api.OK},
		{"699 and 2 of the first block", alone(first(699)), api.ErrLong},
		{"700 in each of two functions", alone(filled(700, 700), filled(700, 400)), api.OK},
		{"701 in the second function", alone(filled(2, 2), filled(701, 400)), api.ErrLong},
		{"701 in the last function", alone(seven(), seven(), filled(701, 400)), api.ErrLong},
		{"28000 in one function", alone(filled(28000, 700)), api.ErrLong},
	} {
		if err := well.Check(x.p); err != x.want {
			t.Error(x.name, err)
		}
	}
}

// P9.2: a program has at most MaxBytes bytes.
func TestCheckBytes(t *testing.T) {
	p := alone()
	for range api.MaxFuncs {
		p.Funcs = append(p.Funcs, filled(700, 700))
	}
	size := func() int {
		b, _ := code.Encode(p)
		return len(b)
	}
	// Each number 0 has one byte: it can have up to nine more.
	left := api.MaxBytes - size()
	all := longs(p)
	for _, n := range all {
		if left == 0 {
			break
		}
		more := min(left, 9)
		*n = 1 << (7*more - 1)
		left -= more
	}
	last := all[len(all)-1]
	if size() != api.MaxBytes || *last != 0 {
		t.Fatal("there is no such program:", size())
	}
	if err := well.Check(p); err != api.OK {
		t.Error("as many bytes as there may be:", err)
	}
	*last = 64
	if err := well.Check(p); err != api.ErrLong {
		t.Error("one more:", err)
	}
	p.Funcs[0].Ret = -2
	if err := well.Check(p); err != api.ErrLong {
		t.Error("one more, and a rule that is broken:", err)
	}
}

// P9.2: code.Encode's errors come ahead of all that follows, in their order.
func TestCheckEncodesErrors(t *testing.T) {
	if err := well.Check(nil); err != api.ErrArg {
		t.Error("nil:", err)
	}
	many := filled(701, 400)
	strange := func(p *api.Prog) *api.Prog {
		p.Funcs[len(p.Funcs)-1].Blocks[0].Ops[0].K = 26
		return p
	}
	for _, x := range []struct {
		name string
		p    *api.Prog
		want api.Errno
	}{
		{"a kind of step that is none", alone(fun(0, block(nil, ret(0), num(1), api.Op{K: 26}))), api.ErrForm},
		{"a kind of step below 0", alone(fun(0, block(nil, ret(0), num(1), api.Op{K: -1}))), api.ErrForm},
		{"a kind of end that is none", alone(fun(0, block(nil, api.End{K: 4}))), api.ErrForm},
		{"a kind of end below 0", alone(fun(0, block(nil, api.End{K: -1}))), api.ErrForm},
		{"701 values, and a kind that is none behind them", strange(alone(many, seven())), api.ErrForm},
		{"701 values, and a kind that is none ahead of them", alone(fun(0, block(nil, ret(0), api.Op{K: 26})), filled(701, 400)), api.ErrForm},
		{"17 functions, one of them without blocks", alone(append(slices.Repeat([]api.Func{seven()}, 16), fun(0))...), api.ErrLong},
		{"a rule that is broken, and 701 values behind it", alone(fun(7, block(nil, ret(3))), filled(701, 400)), api.ErrLong},
		{"a sig's rule that is broken, and 701 values", &api.Prog{Sigs: []api.Sig{{Ret: -2}}, Funcs: []api.Func{many}}, api.ErrLong},
		{"a class's rule that is broken, and 701 values", &api.Prog{Classes: []api.Class{{Fields: to(-1)}}, Funcs: []api.Func{many}}, api.ErrLong},
		{"701 values that are not met", alone(fun(0, block(nil, ret(0), num(1)), block(nil, ret(0), slices.Repeat([]api.Op{num(2)}, 700)...))), api.ErrLong},
		{"a rule that is broken, and a text too long", alone(fun(7, block(nil, ret(0), str(strings.Repeat("x", 65))))), api.ErrLong},
		{"a text too long, and a kind that is none behind it", alone(fun(2, block(nil, ret(0), str(strings.Repeat("x", 65)), api.Op{K: 26}))), api.ErrLong},
		{"a kind that is none, and a text too long behind it", alone(fun(2, block(nil, ret(1), api.Op{K: 26}, str(strings.Repeat("x", 65))))), api.ErrForm},
		{"a list too long, and an end that is none behind it", alone(fun(0, block(nil, api.End{K: 9}, call(0, make([]int, 9)...)))), api.ErrLong},
		{"targets' values too many", alone(fun(0, block(nil, jump(1, make([]int, 9)...), num(1)), block(nil, ret(0)))), api.ErrLong},
		{"methods too many", &api.Prog{Classes: []api.Class{{Methods: make([]int, 5)}}, Funcs: []api.Func{seven()}}, api.ErrLong},
		{"blocks too many, none of them met", alone(api.Func{Blocks: make([]api.Block, 41)}), api.ErrLong},
	} {
		if err := well.Check(x.p); err != x.want {
			t.Error(x.name, err)
		}
		if _, err := code.Encode(x.p); err != api.OK && err != x.want {
			t.Error(x.name, "has another error by Encode:", err)
		}
	}
}
