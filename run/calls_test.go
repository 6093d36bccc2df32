package run_test

import (
	"testing"

	"hallmark/api"
)

// P11.2: a call is the function, handed its values in their order; what comes back is what the step comes to, and the function that calls goes on.
func TestP11_2Calls(t *testing.T) {
	minus := fun(api.TInt, block(to(0, 0), ret(2), arith(api.Sub, 0, 1)))
	shout := fun(none, block(to(api.TText, 0), ret(0), tell(0), tell(1)))
	empty := fun(none, block(nil, ret(0)))
	pair := fun(api.TText, block(to(api.TBool, api.TText, api.TText), branch(0, 1, nil, 2, nil)), block(nil, ret(1)), block(nil, ret(2)))
	twice := fun(api.TInt, block(to(0), ret(2), call(3, 0, 0), call(3, 1, 0)))
	played(t, []scene{
		{"values in their order", alone(fun(api.TInt, block(to(0, 0), ret(2), call(1, 1, 0))), minus), numbers(3, 10), api.Outcome{Code: 7, Steps: 4}},
		{"one value twice", alone(fun(api.TInt, block(to(0, 0), ret(2), call(1, 1, 1))), minus), numbers(3, 10), api.Outcome{Steps: 4}},
		{"the caller's values are there still", alone(fun(api.TInt, block(to(0, 0), ret(4), call(1, 0, 1), call(1, 2, 0), arith(api.Add, 3, 1))), minus), numbers(3, 10), api.Outcome{Code: 0, Steps: 8}},
		{"a function that tells nothing", alone(fun(api.TInt, block(nil, ret(5), str("x"), num(4), call(1, 0, 1), num(9), call(1, 0, 3), arith(api.Add, 1, 3))), shout), nil, api.Outcome{Code: 13, Trace: texts(`"x"`, "4", `"x"`, "9"), Steps: 13}},
		{"a function without a value that tells nothing", alone(fun(api.TInt, block(nil, ret(1), call(1), num(4))), empty), nil, api.Outcome{Code: 4, Steps: 4}},
		{"a text comes back", alone(fun(api.TInt, block(nil, ret(7), bit(1), bit(0), str("a"), str("b"), call(1, 0, 2, 3), call(1, 1, 2, 3), tell(4), num(0), tell(5))), pair), nil, api.Outcome{Trace: texts(`"a"`, `"b"`), Steps: 14}},
		{"calls in a call", alone(fun(api.TInt, block(to(0), ret(1), call(2, 0))), minus, twice, minus), numbers(5), api.Outcome{Code: -5, Steps: 9}},
		{"a call of function 0", alone(fun(api.TInt, block(to(0), branch(2, 1, nil, 2, nil), num(1), arith(api.Less, 0, 1)), block(nil, ret(0), tell(0)), block(nil, ret(6), arith(api.Sub, 0, 1), call(0, 4), arith(api.Add, 5, 0)))), numbers(3), api.Outcome{Code: 6, Trace: texts("0"), Steps: 3*(3+4) + 3 + 2}},
		{"a truth comes back", alone(fun(api.TInt, block(to(0), branch(1, 1, nil, 2, nil), call(1, 0)), block(nil, ret(2), num(10)), block(nil, ret(3), num(20))), fun(api.TBool, block(to(0), ret(2), num(5), arith(api.Less, 0, 1)))), numbers(4), api.Outcome{Code: 10, Steps: 1 + 3 + 1 + 2}},
	})
}

// kinds is a program with three classes; method 0 is of a number and tells one, method 1 of nothing, and tells nothing.
func kinds(main api.Func) *api.Prog {
	return &api.Prog{
		Sigs:    []api.Sig{{Params: to(api.TInt, api.TText), Ret: api.TInt}, {Ret: none}},
		Classes: []api.Class{{Fields: to(api.TInt), Methods: to(1, 3)}, {Methods: to(2, -1)}, {Fields: to(api.TInt), Methods: to(-7, 4)}},
		Funcs: []api.Func{
			main,
			fun(api.TInt, block(to(api.TFace, 0, api.TText), ret(4), tell(2), arith(api.Add, 1, 1))),
			fun(api.TInt, block(to(api.TFace, 0, api.TText), ret(4), tell(1), arith(api.Mul, 1, 1))),
			tells("three"), tells("four"),
			fun(none, block(to(api.TFace), ret(0), ask(1, 0))),
		},
	}
}

// P11.3: a method is that of the object's class, handed the face first; where there is none the run ends with FailAsk.
func TestP11_3Asks(t *testing.T) {
	ops := []api.Op{num(5), str("s"), object(0, 0), object(1), laid(object(2, 0)), face(2), face(3), face(4)}
	with := func(more ...api.Op) *api.Prog { return kinds(main(ret(0), behind(ops, more...)...)) }
	const used, makes = 24, 2
	failed := func(steps int, trace ...string) api.Outcome {
		return api.Outcome{End: api.Failed, Code: api.FailAsk, Trace: trace, Used: used, Makes: makes, Steps: steps}
	}
	played(t, []scene{
		{"method 0 of class 0", with(ask(0, 5, 0, 1), tell(8)), nil, api.Outcome{Code: 5, Trace: texts(`"s"`, "10"), Used: used, Makes: makes, Steps: 14}},
		{"method 0 of class 1", with(ask(0, 6, 0, 1), tell(8)), nil, api.Outcome{Code: 5, Trace: texts("5", "25"), Used: used, Makes: makes, Steps: 14}},
		{"method 1 of class 0", with(ask(1, 5)), nil, api.Outcome{Code: 5, Trace: texts(`"three"`), Used: used, Makes: makes, Steps: 13}},
		{"method 1 of class 2", with(ask(1, 7)), nil, api.Outcome{Code: 5, Trace: texts(`"four"`), Used: used, Makes: makes, Steps: 13}},
		{"all of them", with(ask(1, 7), ask(1, 5), ask(0, 6, 0, 1), ask(1, 7)), nil, api.Outcome{Code: 5, Trace: texts(`"four"`, `"three"`, "5", `"four"`), Used: used, Makes: makes, Steps: 8 + 4*4 + 1}},
		{"method 0 of class 2", with(ask(0, 7, 0, 1), tell(0)), nil, failed(9)},
		{"method 1 of class 1", with(ask(1, 5), ask(1, 6), tell(0)), nil, failed(13, `"three"`)},
		{"the face is handed on", with(call(5, 7), call(5, 5)), nil, api.Outcome{Code: 5, Trace: texts(`"four"`, `"three"`), Used: used, Makes: makes, Steps: 8 + 2*6 + 1}},
		{"none, in a call", with(call(5, 6)), nil, failed(10)},
	})
	// A method asks the face that it is handed: it is the first parameter, and the same object.
	self := kinds(main(ret(0), num(5), object(0, 0), face(1), ask(1, 2), tell(0)))
	self.Funcs[3] = fun(none, block(to(api.TFace), ret(0), num(1), str("again"), call(1, 0, 1, 2), tell(3)))
	played(t, []scene{{"a method hands its face on", self, nil, api.Outcome{Code: 5, Trace: texts(`"again"`, "2", "5"), Used: 16, Makes: 1, Steps: 3 + 1 + 3 + 3 + 2 + 2}}})
}

// leaving is a program whose function 1 makes something on the stack, and comes to it; what asks that once it is over is in use.
func leaving(made []api.Op, t int, use ...api.Op) *api.Prog {
	use = append([]api.Op{num(0), call(1)}, use...)
	return &api.Prog{
		Sigs:    []api.Sig{{Ret: api.TInt}},
		Classes: []api.Class{{Fields: to(api.TInt), Methods: to(2)}, {Methods: to(-1)}},
		Funcs: []api.Func{
			main(ret(0), use...),
			fun(t, block(nil, ret(len(made)-1), made...)),
			fun(api.TInt, block(to(api.TFace), ret(1), num(12), tell(1))),
		},
	}
}

// P11.2, P11.3: what was made on the stack of a call is gone when it is over: the run ends with Stale when that is asked, at just that step, also where its place would be none.
func TestP11_2Stale(t *testing.T) {
	two, no := []api.Op{laid(slice(2))}, []api.Op{laid(slice(0))}
	keys, thing := []api.Op{laid(table())}, []api.Op{num(3), laid(object(0, 0))}
	for _, x := range []struct {
		name string
		made []api.Op
		t    int
		use  api.Op
		no   bool // there would be no such place
	}{
		{"size", two, api.TSlice, size(1), false},
		{"size of none", no, api.TSlice, size(1), false},
		{"at", two, api.TSlice, at(1, 0), false},
		{"at what is not there", no, api.TSlice, at(1, 0), true},
		{"put", two, api.TSlice, put(1, 0, 0), false},
		{"put where nothing is", no, api.TSlice, put(1, 0, 0), true},
		{"get", thing, api.TPtr, get(1, 0), false},
		{"set", thing, api.TPtr, set(1, 0, 0), false},
		{"enter", keys, api.TTable, enter(1, 0, 0), false},
		{"look", keys, api.TTable, look(1, 0), false},
		{"count", keys, api.TTable, count(1), false},
		{"key that is not there", keys, api.TTable, key(1, 0), true},
	} {
		p := leaving(x.made, x.t, tell(0), x.use, tell(0))
		played(t, []scene{{x.name, p, nil, api.Outcome{End: api.Stale, Trace: texts("0"), Steps: 2 + len(x.made) + 1 + 2}}})
		if x.no {
			x.made = append([]api.Op{}, x.made...)
			x.made[len(x.made)-1].Stack = false
			p = leaving(x.made, x.t, tell(0), x.use, tell(0))
			played(t, []scene{{x.name + ", on the heap", p, nil, api.Outcome{End: api.Failed, Code: api.FailAt, Trace: texts("0"), Used: 8, Makes: 1, Steps: 2 + len(x.made) + 1 + 2}}})
		}
	}
}

// P11.2, P11.3: what is gone is gone also when there are as many frames again; it may be handed on, and its class is asked all the same.
func TestP11_2StaleLater(t *testing.T) {
	give := fun(api.TSlice, block(nil, ret(0), laid(slice(3))))
	take := fun(api.TInt, block(to(api.TSlice), ret(1), size(0)))
	both := fun(api.TInt, block(to(api.TSlice), ret(2), call(1), size(0)))
	own := fun(api.TInt, block(nil, ret(1), laid(slice(4)), call(2, 0)))
	pass := fun(api.TSlice, block(to(api.TSlice), ret(0)))
	stale := func(steps int) api.Outcome { return api.Outcome{End: api.Stale, Steps: steps} }
	played(t, []scene{
		{"in another call", alone(main(ret(1), call(1), call(2, 0)), give, take), nil, stale(5)},
		{"in another call, behind one that makes as much", alone(main(ret(1), call(1), call(2, 0)), give, both), nil, stale(8)},
		{"behind another call of the same function", alone(main(ret(2), call(1), call(1), size(0)), give), nil, stale(7)},
		{"what the last call made is gone, too", alone(main(ret(2), call(1), call(1), size(1)), give), nil, stale(7)},
		{"handed on, and back", alone(main(ret(2), call(1), call(2, 0), size(1)), give, pass), nil, stale(6)},
		{"what lies in a call that goes on is there", alone(main(ret(0), call(3)), give, take, own), nil, api.Outcome{Code: 4, Steps: 7}},
		{"what lies in function 0 is there till the end", alone(main(ret(2), laid(slice(6)), call(1), call(2, 0)), give, take), nil, api.Outcome{Code: 6, Steps: 8}},
		{"what came of a call, and was not asked", alone(main(ret(1), call(1), num(5)), give), nil, api.Outcome{Code: 5, Steps: 5}},
	})
	face1 := []api.Op{num(3), laid(object(0, 0)), face(1)}
	played(t, []scene{
		{"a method of what is gone", leaving(face1, api.TFace, ask(0, 1), tell(2)), nil, api.Outcome{Trace: texts("12", "12"), Steps: 2 + 4 + 1 + 3 + 1 + 1}},
		{"no method of what is gone", leaving([]api.Op{laid(object(1)), face(0)}, api.TFace, ask(0, 1), tell(2)), nil, api.Outcome{End: api.Failed, Code: api.FailAsk, Steps: 2 + 3 + 1}},
		{"the face of what is gone", leaving([]api.Op{num(3), laid(object(0, 0))}, api.TPtr, face(1), ask(0, 2), tell(3)), nil, api.Outcome{Trace: texts("12", "12"), Steps: 2 + 3 + 1 + 1 + 3 + 1 + 1}},
	})
	// A method's own frame is one, too.
	p := leaving(face1, api.TFace, ask(0, 1), tell(2))
	p.Funcs[1].Blocks[0].Ops[1].Stack = false
	p.Sigs[0].Ret, p.Funcs[2].Ret = api.TSlice, api.TSlice
	p.Funcs[2].Blocks[0] = block(to(api.TFace), ret(1), laid(slice(2)))
	p.Funcs[0].Blocks[0].Ops[3] = size(2)
	played(t, []scene{{"what a method made", p, nil, api.Outcome{End: api.Stale, Used: 16, Makes: 1, Steps: 2 + 4 + 1 + 2 + 1}}})
}

// P11.2: what is made on the stack lies there till its call is over, and no longer: not just as long as the block in which it was made; and what is made on the heap is never gone.
func TestP11_2Lasting(t *testing.T) {
	// Each time round a slice is made on the stack, and that of the last time is asked.
	round := fun(api.TInt,
		block(to(0), jump(1, 0, 1), laid(slice(7))),
		block(to(0, api.TSlice), branch(9, 1, to(7, 5), 2, to(4)), size(3), laid(slice(1)), num(1), arith(api.Sub, 2, 6), num(0), arith(api.Less, 8, 7)),
		block(to(0), ret(10)))
	played(t, []scene{
		{"round", alone(round), numbers(1), api.Outcome{Code: 7, Steps: 2 + 7 + 1}},
		{"round and round", alone(round), numbers(3), api.Outcome{Code: 1, Steps: 2 + 3*7 + 1}},
		{"in a call", alone(fun(api.TInt, block(to(0), ret(1), call(1, 0))), round), numbers(3), api.Outcome{Code: 1, Steps: 2 + 3*7 + 1 + 2}},
	})
	heaped := alone(main(ret(2), call(1), call(1), size(0)), fun(api.TSlice, block(nil, ret(1), num(1), slice(3), put(1, 0, 0))))
	played(t, []scene{{"on the heap", heaped, nil, api.Outcome{Code: 3, Used: 64, Makes: 2, Steps: 2 + 8 + 2}}})
}
