package run_test

import (
	"math"
	"slices"
	"testing"

	"hallmark/api"
	"hallmark/run"
	"hallmark/well"
)

// sum is a program that tells and comes to the sum of its two numbers.
func sum() *api.Prog {
	return alone(fun(api.TInt, block(to(0, 0), ret(2), arith(api.Add, 0, 1), tell(2))))
}

func TestExample(t *testing.T) {
	played(t, []scene{{"int 7, ret", one(ret(0), num(7)), nil, api.Outcome{End: api.Done, Code: 7, Steps: 2}}})
}

// P11.1: what is not well made is Bad, and nothing else.
func TestP11_1BadPrograms(t *testing.T) {
	good := one(ret(0), num(7), tell(0))
	for name, p := range map[string]*api.Prog{
		"nil":                       nil,
		"no function":               {},
		"a function without blocks": alone(fun(api.TInt)),
		"function 0 tells nothing":  alone(fun(none, block(nil, ret(0), num(7)))),
		"function 0 tells a text":   alone(fun(api.TText, block(nil, ret(0), str("x")))),
		"function 0 wants a text":   alone(fun(api.TInt, block(to(api.TText), ret(1), num(7)))),
		"a value that is not there": one(ret(1), num(7)),
		"a value that comes later":  one(ret(1), tell(1), num(7)),
		"a text where a number is":  one(ret(1), str("x"), arith(api.Add, 0, 0)),
		"a block that is not met":   alone(fun(api.TInt, good.Funcs[0].Blocks[0], good.Funcs[0].Blocks[0])),
		"a way to block 0":          alone(fun(api.TInt, block(nil, jump(0)))),
		"a step that is none":       one(ret(0), num(7), api.Op{K: api.Ops}),
		"an end that is none":       one(api.End{K: 4}, num(7)),
		"another function is wrong": alone(good.Funcs[0], fun(none, block(nil, ret(1)))),
		"a class is wrong":          {Classes: []api.Class{{Fields: to(99)}}, Funcs: good.Funcs},
		"a sig is wrong":            {Sigs: []api.Sig{{Ret: 99}}, Funcs: good.Funcs},
		"too many functions":        alone(slices.Repeat(good.Funcs, 17)...),
		"too long a text":           one(ret(0), num(7), str(string(make([]byte, 65)))),
	} {
		if well.Check(p) == api.OK {
			t.Error(name, "is well made")
		}
		for _, in := range [][]int64{nil, {}, {1}, {1, 2}} {
			for _, limit := range []int{-1, 0, plenty} {
				for _, fuel := range []int{-1, 0, 1, plenty} {
					if got := run.Run(p, in, limit, fuel); !alikeOutcomes(got, api.Outcome{End: api.Bad}) {
						t.Errorf("%s: %+v", name, got)
					}
				}
			}
		}
	}
}

// P11.1: a program is handed just as many numbers as function 0 has parameters.
func TestP11_1BadNumbers(t *testing.T) {
	bad := api.Outcome{End: api.Bad}
	eight := alone(fun(api.TInt, block(make([]int, 8), ret(7))))
	for _, x := range []struct {
		p    *api.Prog
		in   []int64
		want api.Outcome
	}{
		{sum(), nil, bad},
		{sum(), numbers(), bad},
		{sum(), numbers(1), bad},
		{sum(), numbers(1, 2), api.Outcome{Code: 3, Trace: texts("3"), Steps: 3}},
		{sum(), numbers(1, 2, 3), bad},
		{sum(), make([]int64, 1000), bad},
		{one(ret(0), num(7)), numbers(7), bad},
		{one(ret(0), num(7)), numbers(), api.Outcome{Code: 7, Steps: 2}},
		{eight, numbers(1, 2, 3, 4, 5, 6, 7), bad},
		{eight, numbers(1, 2, 3, 4, 5, 6, 7, 8), api.Outcome{Code: 8, Steps: 1}},
		{eight, numbers(1, 2, 3, 4, 5, 6, 7, 8, 9), bad},
	} {
		ready(t, "numbers", x.p)
		if got := ran(t, x.p, x.in, plenty, plenty); !alikeOutcomes(got, x.want) {
			t.Errorf("%v: %+v, not %+v", x.in, got, x.want)
		}
		if got := ran(t, x.p, x.in, 0, 0); (got.End == api.Bad) != (x.want.End == api.Bad) || got.End == api.Bad && !alikeOutcomes(got, bad) {
			t.Errorf("%v, without fuel: %+v", x.in, got)
		}
	}
}

// P11.1: the heap has at most limit bytes: none below 0, MaxHeap above it.
func TestP11_1Limit(t *testing.T) {
	empty := one(ret(1), table(), num(3))
	noRoom := api.Outcome{End: api.NoRoom, Steps: 1}
	for _, limit := range []int{math.MinInt, -8, -1, 0, 1, 7} {
		comes(t, "a table", empty, nil, limit, plenty, noRoom)
	}
	for _, limit := range []int{8, 9, api.MaxHeap, api.MaxHeap + 1, math.MaxInt} {
		comes(t, "a table", empty, nil, limit, plenty, api.Outcome{Code: 3, Used: 8, Makes: 1, Steps: 3})
	}
	// 2046 slices of 1024 numbers and two tables are MaxHeap bytes.
	full := func(last ...api.Op) *api.Prog {
		return alone(fun(api.TInt,
			block(nil, jump(1, 1), num(1024), num(2046)),
			block(to(0), branch(7, 1, to(5), 2, nil), space(0), num(1), arith(api.Sub, 2, 4), num(0), arith(api.Less, 6, 5)),
			block(nil, ret(0), last...)))
	}
	p := full(table(), table())
	ready(t, "full", p)
	all := api.Outcome{Code: 1024, Used: api.MaxHeap, Makes: 2048, Steps: 3 + 2046*6 + 3}
	comes(t, "full", p, nil, api.MaxHeap, plenty, all)
	comes(t, "full", p, nil, api.MaxHeap+1, plenty, all)
	comes(t, "full", p, nil, api.MaxHeap-1, plenty, api.Outcome{End: api.NoRoom, Used: api.MaxHeap - 8, Makes: 2047, Steps: all.Steps - 1})
	p = full(table(), table(), table())
	for _, limit := range []int{api.MaxHeap, api.MaxHeap + 1, api.MaxHeap + 8, math.MaxInt} {
		comes(t, "more than full", p, nil, limit, plenty, api.Outcome{End: api.NoRoom, Used: api.MaxHeap, Makes: 2048, Steps: all.Steps})
	}
}

// down goes down from its number to 0, five steps each time, and six beside.
func down() *api.Prog {
	return alone(fun(api.TInt,
		block(to(0), jump(1, 0)),
		block(to(0), branch(5, 1, to(3), 2, nil), num(1), arith(api.Sub, 1, 2), num(0), arith(api.Less, 4, 3)),
		block(nil, ret(9), num(1), num(2), tell(7), num(5))))
}

// P11.1: a run has at most fuel steps: none below 0, MaxFuel above it.
func TestP11_1Fuel(t *testing.T) {
	p, just := down(), numbers(209714)
	ready(t, "down", p)
	for _, fuel := range []int{math.MinInt, -1, 0} {
		comes(t, "down", p, just, plenty, fuel, api.Outcome{End: api.NoFuel})
	}
	comes(t, "down", p, just, plenty, 1, api.Outcome{End: api.NoFuel, Steps: 1})
	comes(t, "down", p, just, plenty, api.MaxFuel-1, api.Outcome{End: api.NoFuel, Trace: texts("2"), Steps: api.MaxFuel - 1})
	for _, fuel := range []int{api.MaxFuel, api.MaxFuel + 1, math.MaxInt} {
		comes(t, "down", p, just, plenty, fuel, api.Outcome{Code: 5, Trace: texts("2"), Steps: api.MaxFuel})
		comes(t, "down, one more", p, numbers(209715), plenty, fuel, api.Outcome{End: api.NoFuel, Steps: api.MaxFuel})
	}
}

// stages is a program that does something to be seen in most of its steps, and what is to be seen once so many of them are paid.
func stages() (*api.Prog, []api.Outcome) {
	p := &api.Prog{
		Sigs:    []api.Sig{{Params: to(api.TInt), Ret: api.TInt}},
		Classes: []api.Class{{Fields: to(api.TInt), Methods: to(2)}},
		Funcs: []api.Func{
			fun(api.TInt,
				block(to(0), jump(1, 5), num(5), tell(1), slice(2), laid(slice(9)), call(1, 4), tell(5)),
				block(to(0), branch(14, 2, to(7), 3, nil), table(), enter(8, 7, 0), enter(8, 7, 7), object(0, 7), face(11), ask(0, 12, 7), bit(1)),
				block(to(0), stop(13), tell(15)),
				block(nil, ret(0))),
			fun(api.TInt, block(to(api.TSlice), ret(1), size(0), tell(1), space(1))),
			fun(api.TInt, block(to(api.TFace, api.TInt), ret(1), tell(1))),
		},
	}
	var l []api.Outcome
	x := api.Outcome{}
	paid := func(used, makes int, tell ...string) {
		x.Used, x.Makes = x.Used+used, x.Makes+makes
		x.Trace = append(x.Trace, tell...)
		x.Steps++
		y := x
		y.Trace = slices.Clone(x.Trace)
		l = append(l, y)
	}
	paid(0, 0)      // num
	paid(0, 0, "5") // tell
	paid(24, 1)     // slice
	paid(0, 0)      // slice, on the stack
	paid(0, 0)      // call
	paid(0, 0)      // size
	paid(0, 0, "9") // tell
	paid(80, 1)     // space
	paid(0, 0)      // ret
	paid(0, 0, "9") // tell
	paid(0, 0)      // jump
	paid(8, 1)      // table
	paid(16, 0)     // enter
	paid(0, 0)      // enter, of the same key
	paid(16, 1)     // object
	paid(0, 0)      // face
	paid(0, 0)      // ask
	paid(0, 0, "9") // tell
	paid(0, 0)      // ret
	paid(0, 0)      // bit
	paid(0, 0)      // branch
	paid(0, 0, "9") // tell
	paid(0, 0)      // stop
	return p, l
}

// P11.2: each step, and each end, is paid ahead of what it does: at each fuel below what is enough just that is there which was paid.
func TestP11_2PaidAhead(t *testing.T) {
	p, l := stages()
	ready(t, "stages", p)
	comes(t, "stages", p, numbers(3), plenty, 0, api.Outcome{End: api.NoFuel})
	for n, want := range l {
		want.End = api.NoFuel
		if n == len(l)-1 {
			want.End, want.Code = api.Stopped, 9
		}
		comes(t, "stages", p, numbers(3), plenty, n+1, want)
	}
	last := l[len(l)-1]
	last.End, last.Code = api.Stopped, 9
	for more := range 5 {
		comes(t, "stages", p, numbers(3), plenty, len(l)+more, last)
	}
}

// P11.2: steps are counted, the last one too, whatever the run ends with.
func TestP11_2StepsOfEachAnswer(t *testing.T) {
	give := fun(api.TSlice, block(nil, ret(0), laid(slice(1))))
	played(t, []scene{
		{"done", one(ret(1), num(1), num(2)), nil, api.Outcome{End: api.Done, Code: 2, Steps: 3}},
		{"stopped", one(stop(1), num(1), num(2)), nil, api.Outcome{End: api.Stopped, Code: 2, Steps: 3}},
		{"failed", one(ret(1), num(0), arith(api.Div, 0, 0), num(1)), nil, api.Outcome{End: api.Failed, Code: api.FailDiv, Steps: 2}},
		{"stale", alone(fun(api.TInt, block(nil, ret(1), call(1), size(0))), give), nil, api.Outcome{End: api.Stale, Steps: 4}},
	})
	comes(t, "no room", one(ret(0), num(1), tell(0), table(), num(2)), nil, 7, plenty, api.Outcome{End: api.NoRoom, Trace: texts("1"), Steps: 3})
	comes(t, "no fuel", one(ret(0), num(1), tell(0), table(), num(2)), nil, 8, 3, api.Outcome{End: api.NoFuel, Trace: texts("1"), Used: 8, Makes: 1, Steps: 3})
	if got := run.Run(one(ret(0)), nil, plenty, plenty); !alikeOutcomes(got, api.Outcome{End: api.Bad}) {
		t.Error("bad:", got)
	}
}

// P11.2: jumps and branches hand values on, all of them at once; a block's values are those that came last.
func TestP11_2Ends(t *testing.T) {
	swap := alone(fun(api.TInt,
		block(to(0, 0, 0), jump(1, 0, 1, 2)),
		block(to(0, 0, 0), branch(11, 1, to(4, 3, 9), 2, to(3, 4)), tell(3), tell(4), num(1), arith(api.Sub, 5, 8), num(0), arith(api.Less, 10, 9)),
		block(to(0, 0), ret(15), tell(12), arith(api.Sub, 12, 13)),
	))
	turn := alone(fun(api.TInt,
		block(nil, jump(1, 0, 1, 2, 0), num(1), num(2), num(3)),
		block(to(0, 0, 0, 0), branch(10, 1, to(4, 5, 3, 8), 2, nil), num(1), arith(api.Add, 6, 7), num(6), arith(api.Less, 8, 9)),
		block(nil, ret(16), num(100), arith(api.Mul, 3, 11), num(10), arith(api.Mul, 4, 13), arith(api.Add, 12, 14), arith(api.Add, 15, 5)),
	))
	played(t, []scene{
		{"a loop whose parameters change places", swap, numbers(7, 9, 3), api.Outcome{Code: -2, Trace: texts("7", "9", "9", "7", "7", "9", "7"), Steps: 1 + 3*7 + 3}},
		{"a loop whose parameters change places, once", swap, numbers(7, 9, 1), api.Outcome{Code: -2, Trace: texts("7", "9", "7"), Steps: 1 + 7 + 3}},
		{"three parameters go round", turn, nil, api.Outcome{Code: 231, Steps: 4 + 5*5 + 7}},
		{"a branch by TRUE", forked(), numbers(1, 2), api.Outcome{Code: 12, Trace: texts("1"), Steps: 8}},
		{"a branch by FALSE", forked(), numbers(2, 1), api.Outcome{Code: 11, Trace: texts("1"), Steps: 8}},
		{"a branch to one block twice", one2(bit(1)), numbers(5, 6), api.Outcome{Code: 5, Steps: 3}},
		{"a branch to one block twice, else", one2(bit(0)), numbers(5, 6), api.Outcome{Code: 6, Steps: 3}},
		{"a value as two parameters", alone(fun(api.TInt, block(to(0, 0), jump(1, 1, 1)), block(to(0, 0), ret(4), arith(api.Mul, 2, 3)))), numbers(5, 6), api.Outcome{Code: 36, Steps: 3}},
		{"stop of a parameter", alone(fun(api.TInt, block(to(0), stop(0)))), numbers(least), api.Outcome{End: api.Stopped, Code: least, Steps: 1}},
		{"ret of a parameter", alone(fun(api.TInt, block(to(0), ret(0)))), numbers(least), api.Outcome{Code: least, Steps: 1}},
	})
}

// forked tells the lesser one of its numbers, and comes to 10 and the other one's place; what joins sees what is over it, and its parameter.
func forked() *api.Prog {
	return alone(fun(api.TInt,
		block(to(0, 0), branch(2, 2, to(0), 1, nil), arith(api.Less, 0, 1), num(10)),
		block(nil, jump(3, 1, 4), num(1)),
		block(to(0), jump(3, 5, 6), num(2)),
		block(to(0, 0), ret(10), tell(7), arith(api.Add, 3, 8))))
}

// one2 comes to its first number, or its second one, as a truth has it.
func one2(truth api.Op) *api.Prog {
	return alone(fun(api.TInt, block(to(0, 0), branch(2, 1, to(0), 1, to(1)), truth), block(to(0), ret(3))))
}

// P11.2: what a block's steps came to is seen where it is over another block, also behind a loop, and in blocks that stand in another order.
func TestP11_2Seen(t *testing.T) {
	// From 0 the way leads to 3, to 1, to 4 and back to 1, and to 2 in the end.
	mixed := alone(fun(api.TInt,
		block(to(0), jump(3, 0), num(100)),
		block(to(0), branch(6, 4, nil, 2, nil), num(1), arith(api.Sub, 2, 3), num(0), arith(api.Less, 5, 4)),
		block(nil, ret(9), tell(4), arith(api.Add, 1, 12), arith(api.Add, 8, 2)),
		block(to(0), jump(1, 10), num(1000), arith(api.Mul, 10, 11)),
		block(nil, jump(1, 4), tell(2)),
	))
	played(t, []scene{
		{"no way round", mixed, numbers(1), api.Outcome{Code: 1101, Trace: texts("0"), Steps: 14}},
		{"two ways round", mixed, numbers(3), api.Outcome{Code: 3101, Trace: texts("3", "2", "0"), Steps: 28}},
	})
	bare := alone(fun(api.TInt, block(nil, jump(1)), block(nil, jump(1), num(1), num(2), num(3), tell(0), tell(2))))
	comes(t, "a first block without values", bare, nil, plenty, 20, api.Outcome{End: api.NoFuel, Trace: texts("1", "3", "1", "3", "1", "3"), Steps: 20})
}

// P11.4: an outcome has End, and Code where the run has anything to say: what function 0 comes to, or the number of a stop, wherever that is.
func TestP11_4Codes(t *testing.T) {
	quits := fun(api.TInt, block(to(0), stop(0), tell(0)))
	calls := fun(api.TInt, block(to(0), ret(2), num(1), call(2, 0)))
	main := fun(api.TInt, block(to(0), ret(1), call(1, 0), tell(0)))
	var l []scene
	for _, n := range numbers(0, 1, -1, 6, least, greatest) {
		l = append(l,
			scene{"ret", alone(fun(api.TInt, block(to(0), ret(0)))), numbers(n), api.Outcome{Code: n, Steps: 1}},
			scene{"stop", alone(fun(api.TInt, block(to(0), stop(0)))), numbers(n), api.Outcome{End: api.Stopped, Code: n, Steps: 1}},
			scene{"stop in a call in a call", alone(main, calls, quits), numbers(n), api.Outcome{End: api.Stopped, Code: n, Trace: texts(told(mark{n: n})), Steps: 5}})
	}
	played(t, l)
	all := one(ret(1), num(5), num(6), tell(1), table())
	comes(t, "no fuel", all, nil, plenty, 4, api.Outcome{End: api.NoFuel, Trace: texts("6"), Used: 8, Makes: 1, Steps: 4})
	comes(t, "no room", all, nil, 7, plenty, api.Outcome{End: api.NoRoom, Trace: texts("6"), Steps: 4})
	comes(t, "no room, and no fuel", all, nil, 7, 4, api.Outcome{End: api.NoRoom, Trace: texts("6"), Steps: 4})
	comes(t, "no fuel ahead of no room", all, nil, 7, 3, api.Outcome{End: api.NoFuel, Trace: texts("6"), Steps: 3})
}
