package run_test

import (
	"testing"

	"hallmark/api"
)

// shapes is a program with classes that have fields of most types, and of these functions.
func shapes(funcs ...api.Func) *api.Prog {
	return &api.Prog{
		Classes: []api.Class{{Fields: to(api.TInt, api.TText, api.TSlice, api.TPtr+1)}, {Fields: to(api.TInt)}, {}},
		Funcs:   funcs,
	}
}

// main is function 0, of one block without parameters.
func main(end api.End, ops ...api.Op) api.Func { return fun(api.TInt, block(nil, end, ops...)) }

// P11.3: objects, slices and tables, each kind of step by hand, on the heap and on the stack.
func TestP11_3Memory(t *testing.T) {
	for _, stack := range []bool{false, true} {
		lie := func(o api.Op) api.Op { o.Stack = stack; return o }
		// on the stack nothing of the heap is taken
		takes := func(x api.Outcome) api.Outcome {
			if stack {
				x.Used, x.Makes = 0, 0
			}
			return x
		}
		fields := []api.Op{num(5), str("s"), lie(slice(2)), lie(object(1, 0)), lie(object(0, 0, 1, 2, 3))}
		with := func(ops ...api.Op) []api.Op { return append(append([]api.Op{}, fields...), ops...) }
		played(t, []scene{
			{"get a number", shapes(main(ret(5), with(get(4, 0))...)), nil, takes(api.Outcome{Code: 5, Used: 80, Makes: 3, Steps: 7})},
			{"get a text", shapes(main(ret(0), with(get(4, 1), tell(5))...)), nil, takes(api.Outcome{Code: 5, Trace: texts(`"s"`), Used: 80, Makes: 3, Steps: 8})},
			{"get a slice", shapes(main(ret(6), with(get(4, 2), size(5))...)), nil, takes(api.Outcome{Code: 2, Used: 80, Makes: 3, Steps: 8})},
			{"get a pointer", shapes(main(ret(6), with(get(4, 3), get(5, 0))...)), nil, takes(api.Outcome{Code: 5, Used: 80, Makes: 3, Steps: 8})},
			{"set a number", shapes(main(ret(7), with(num(6), set(4, 0, 5), get(4, 0))...)), nil, takes(api.Outcome{Code: 6, Used: 80, Makes: 3, Steps: 9})},
			{"set a text", shapes(main(ret(0), with(str("t"), set(4, 1, 5), get(4, 1), tell(7))...)), nil, takes(api.Outcome{Code: 5, Trace: texts(`"t"`), Used: 80, Makes: 3, Steps: 10})},
			{"set a pointer", shapes(main(ret(9), with(num(8), lie(object(1, 5)), set(4, 3, 6), get(4, 3), get(8, 0))...)), nil, takes(api.Outcome{Code: 8, Used: 96, Makes: 4, Steps: 11})},
			{"what is set is seen by another name", shapes(main(ret(8), with(num(8), get(4, 3), set(3, 0, 5), get(6, 0))...)), nil, takes(api.Outcome{Code: 8, Used: 80, Makes: 3, Steps: 10})},
			{"one object's field is not another one's", shapes(main(ret(5), num(1), num(2), lie(object(1, 0)), lie(object(1, 0)), set(2, 0, 1), get(3, 0))), nil, takes(api.Outcome{Code: 1, Used: 32, Makes: 2, Steps: 7})},
			{"an object without fields", shapes(main(ret(0), num(1), lie(object(2)))), nil, takes(api.Outcome{Code: 1, Used: 8, Makes: 1, Steps: 3})},
			{"size of make", one(ret(1), lie(slice(3)), size(0)), nil, takes(api.Outcome{Code: 3, Used: 32, Makes: 1, Steps: 3})},
			{"size of make 0", one(ret(1), lie(slice(0)), size(0)), nil, takes(api.Outcome{Used: 8, Makes: 1, Steps: 3})},
			{"size of make 128", one(ret(1), lie(slice(128)), size(0)), nil, takes(api.Outcome{Code: 128, Used: 1032, Makes: 1, Steps: 3})},
			{"at what was not put", one(ret(2), lie(slice(3)), num(2), at(0, 1)), nil, takes(api.Outcome{Used: 32, Makes: 1, Steps: 4})},
			{"at what was put", one(ret(5), lie(slice(3)), num(2), num(9), put(0, 1, 2), put(0, 1, 2), at(0, 1)), nil, takes(api.Outcome{Code: 9, Used: 32, Makes: 1, Steps: 7})},
			{"put elsewhere", one(ret(5), lie(slice(3)), num(2), num(1), put(0, 1, 2), put(0, 2, 1), at(0, 2)), nil, takes(api.Outcome{Code: 2, Used: 32, Makes: 1, Steps: 7})},
			{"look for nothing", one(ret(2), lie(table()), num(4), look(0, 1)), nil, takes(api.Outcome{Used: 8, Makes: 1, Steps: 4})},
			{"look", one(ret(4), lie(table()), num(4), num(5), enter(0, 1, 2), look(0, 1)), nil, takes(api.Outcome{Code: 5, Used: 24, Makes: 1, Steps: 6})},
			{"look for what was entered twice", one(ret(5), lie(table()), num(4), num(5), enter(0, 1, 2), enter(0, 1, 1), look(0, 1)), nil, takes(api.Outcome{Code: 4, Used: 24, Makes: 1, Steps: 7})},
			{"count nothing", one(ret(1), lie(table()), count(0)), nil, takes(api.Outcome{Used: 8, Makes: 1, Steps: 3})},
			{"count", one(ret(6), lie(table()), num(4), num(5), enter(0, 1, 2), enter(0, 2, 2), enter(0, 1, 1), count(0)), nil, takes(api.Outcome{Code: 2, Used: 40, Makes: 1, Steps: 8})},
			{"keys in the order in which they came", one(ret(6), lie(table()), num(1), num(0), enter(0, 1, 1), enter(0, 2, 2), key(0, 2), key(0, 1)), nil, takes(api.Outcome{Used: 40, Makes: 1, Steps: 8})},
			{"key 0 is what came first", one(ret(5), lie(table()), num(1), num(0), enter(0, 1, 1), enter(0, 2, 2), key(0, 2)), nil, takes(api.Outcome{Code: 1, Used: 40, Makes: 1, Steps: 7})},
		})
	}
	played(t, []scene{
		{"size of room", one(ret(2), num(3), space(0), size(1)), nil, api.Outcome{Code: 3, Used: 32, Makes: 1, Steps: 4}},
		{"size of room 0", one(ret(2), num(0), space(0), size(1)), nil, api.Outcome{Used: 8, Makes: 1, Steps: 4}},
		{"size of room 1024", one(ret(2), num(1024), space(0), size(1)), nil, api.Outcome{Code: 1024, Used: 8200, Makes: 1, Steps: 4}},
		{"room lies on the heap, whatever Stack is", one(ret(2), num(3), laid(space(0)), size(1)), nil, api.Outcome{Code: 3, Used: 32, Makes: 1, Steps: 4}},
		{"the last of 1024", one(ret(4), num(1024), space(0), num(1023), put(1, 2, 0), at(1, 2)), nil, api.Outcome{Code: 1024, Used: 8200, Makes: 1, Steps: 6}},
	})
}

// P11.3: a place, or a key, that is not there: FailAt.
func TestP11_3At(t *testing.T) {
	for _, stack := range []bool{false, true} {
		lie := func(o api.Op) api.Op { o.Stack = stack; return o }
		takes := func(s scene, used int) scene {
			if !stack {
				s.want.Used, s.want.Makes = used, 1
			}
			return s
		}
		var l []scene
		for _, i := range numbers(-1, 2, 3, least, greatest, 1<<32, -1<<32) {
			l = append(l,
				takes(failed("at", api.FailAt, 3, lie(slice(2)), num(i), at(0, 1)), 24),
				takes(failed("put", api.FailAt, 3, lie(slice(2)), num(i), put(0, 1, 1)), 24),
				takes(failed("key", api.FailAt, 6, lie(table()), num(i), num(0), enter(0, 1, 1), enter(0, 2, 2), key(0, 1)), 40))
		}
		l = append(l,
			takes(failed("at of none", api.FailAt, 3, lie(slice(0)), num(0), at(0, 1)), 8),
			takes(failed("put of none", api.FailAt, 3, lie(slice(0)), num(0), put(0, 1, 1)), 8),
			takes(failed("at the last one, and behind", api.FailAt, 5, lie(slice(128)), num(127), at(0, 1), num(128), at(0, 3)), 1032),
			takes(failed("key of none", api.FailAt, 3, lie(table()), num(0), key(0, 1)), 8))
		for _, i := range numbers(least, greatest, -1, 0) {
			l = append(l, takes(scene{"any key may be entered, and looked for", one(ret(4), lie(table()), num(i), num(5), enter(0, 1, 2), look(0, 1)), nil, api.Outcome{Code: 5, Steps: 6}}, 24))
		}
		played(t, l)
	}
}

// P11.3: what takes bytes of the heap takes just so many: to the byte at the limit it is done, one byte below it ends the run with NoRoom, and what was told and made ahead of that stays.
func TestP11_3NoRoom(t *testing.T) {
	for _, x := range []struct {
		name         string
		ahead, makes int // bytes and makes ahead of the last step
		bytes        int // of the last step
		ops          []api.Op
	}{
		{"an object without fields", 0, 0, 8, []api.Op{object(2)}},
		{"an object", 0, 0, 16, []api.Op{num(1), object(1, 0)}},
		{"an object behind others", 56, 3, 40, []api.Op{num(5), str("s"), slice(3), object(1, 0), table(), laid(slice(99)), object(0, 0, 1, 5, 3)}},
		{"make 0", 0, 0, 8, []api.Op{slice(0)}},
		{"make 128", 0, 0, 1032, []api.Op{slice(128)}},
		{"make, the second one", 32, 1, 24, []api.Op{slice(3), slice(2)}},
		{"make, behind what takes nothing", 0, 0, 24, []api.Op{laid(slice(128)), laid(table()), num(1), enter(1, 2, 2), slice(2)}},
		{"room 0", 0, 0, 8, []api.Op{num(0), space(0)}},
		{"room 1024", 0, 0, 8200, []api.Op{num(1024), space(0)}},
		{"room, said to lie on the stack", 0, 0, 24, []api.Op{num(2), laid(space(0))}},
		{"a table", 0, 0, 8, []api.Op{table()}},
		{"a new key", 8, 1, 16, []api.Op{table(), num(1), enter(0, 1, 1)}},
		{"another new key", 24, 1, 16, []api.Op{table(), num(1), num(2), enter(0, 1, 1), enter(0, 1, 2), enter(0, 2, 1)}},
	} {
		ops := append([]api.Op{num(3), tell(0)}, shifted(x.ops, 2)...)
		p := shapes(main(ret(0), append(ops, num(4), tell(len(ops)))...))
		ready(t, x.name, p)
		all := x.ahead + x.bytes
		last := x.makes
		if x.ops[len(x.ops)-1].K != api.OpEnter {
			last++
		}
		short := api.Outcome{End: api.NoRoom, Trace: texts("3"), Used: x.ahead, Makes: x.makes, Steps: len(ops)}
		for _, limit := range []int{x.ahead, all - 15, all - 8, all - 1} {
			if limit >= x.ahead {
				comes(t, x.name, p, nil, limit, plenty, short)
			}
		}
		for _, limit := range []int{all, all + 1, all + 8, api.MaxHeap} {
			comes(t, x.name, p, nil, limit, plenty, api.Outcome{Code: 3, Trace: texts("3", "4"), Used: all, Makes: last, Steps: len(ops) + 3})
		}
	}
}

// shifted are steps of values whose numbers are greater by n.
func shifted(ops []api.Op, n int) []api.Op {
	var l []api.Op
	for _, o := range ops {
		o.A, o.B, o.C = o.A+n, o.B+n, o.C+n
		var values []int
		for _, v := range o.L {
			values = append(values, v+n)
		}
		o.L = values
		l = append(l, o)
	}
	return l
}

// P11.3: on the stack nothing of the heap is taken, however much is made there, and entered.
func TestP11_3StackTakesNothing(t *testing.T) {
	ops := []api.Op{num(5), str("s"), laid(slice(128)), laid(object(1, 0)), laid(object(0, 0, 1, 2, 3)), laid(table()), enter(5, 0, 0), put(2, 0, 0), set(4, 0, 0), laid(object(2))}
	p := shapes(main(ret(0), ops...))
	for _, limit := range []int{-1, 0, 7} {
		comes(t, "on the stack", p, nil, limit, plenty, api.Outcome{Code: 5, Steps: 11})
	}
}
