package calls_test

import (
	"slices"
	"strings"
	"testing"

	"hallmark/api"
	"hallmark/calls"
	"hallmark/well"
)

// The chapter's example.
func TestExample(t *testing.T) {
	p := plain(to(1), to(1))
	ready(t, "example", p)
	if g := calls.Groups(p); !slices.Equal(g, to(-1, 1)) {
		t.Error(g)
	}
	if u := calls.Upward(p); !slices.Equal(u, to(1, 0)) {
		t.Error(u)
	}
}

// refused are programs that are not well made, each for a reason of its own.
func refused() map[string]*api.Prog {
	l := map[string]*api.Prog{"nil": nil, "no function": {}}
	broken := func(name string, change func(p *api.Prog)) {
		p := net(each(to(1, -1), to(1, 2)), to(1, -1), to(2, method(0)), nil)
		change(p)
		l[name] = p
	}
	broken("a sig less", func(p *api.Prog) { p.Sigs = p.Sigs[:1] })
	broken("a sig more", func(p *api.Prog) { p.Sigs = append(p.Sigs, api.Sig{}) })
	broken("a class without methods", func(p *api.Prog) { p.Classes[1].Methods = nil })
	broken("a method that is not there", func(p *api.Prog) { p.Classes[1].Methods = to(1, 3) })
	broken("function 0 as a method", func(p *api.Prog) { p.Classes[1].Methods = to(1, 0) })
	broken("a block that is never met", func(p *api.Prog) {
		f := &p.Funcs[1]
		f.Blocks = append(f.Blocks, block(nil, ret(0), call(2, 0)))
	})
	broken("a block that is not there", func(p *api.Prog) { p.Funcs[2].Blocks[0].End = jump(1) })
	broken("a function without blocks", func(p *api.Prog) { p.Funcs = append(p.Funcs, fun(none)) })
	broken("a call of a function below 0", func(p *api.Prog) { p.Funcs[1].Blocks[0].Ops[0].N = -1 })
	broken("a call of a function that is not there", func(p *api.Prog) { p.Funcs[1].Blocks[0].Ops[0].N = 3 })
	broken("a call of nothing", func(p *api.Prog) { p.Funcs[1].Blocks[0].Ops[0].L = nil })
	broken("a method that is not there is asked", func(p *api.Prog) { p.Funcs[1].Blocks[0].Ops[1].N = 2 })
	broken("an object of a class that is not there", func(p *api.Prog) { p.Funcs[0].Blocks[0].Ops[1].N = 2 })
	broken("a kind of step that is not there", func(p *api.Prog) { p.Funcs[2].Blocks[0].Ops = []api.Op{{K: api.Ops}} })
	broken("nothing comes back of function 0", func(p *api.Prog) { p.Funcs[0].Ret = none })
	broken("too many functions", func(p *api.Prog) {
		for range api.MaxFuncs {
			p.Funcs = append(p.Funcs, fun(none, block(nil, ret(0))))
		}
	})
	broken("too many values", func(p *api.Prog) {
		p.Funcs[2].Blocks[0].Ops = slices.Repeat([]api.Op{num(1)}, api.MaxValues)
	})
	broken("a text that is too long", func(p *api.Prog) {
		p.Funcs[2].Blocks[0].Ops = []api.Op{{K: api.OpText, S: strings.Repeat("x", api.MaxConst+1)}}
	})
	return l
}

// Of nil, and of what is not well made, nothing is told.
func TestRefused(t *testing.T) {
	ready(t, "as it was", net(each(to(1, -1), to(1, 2)), to(1, -1), to(2, method(0)), nil))
	for name, p := range refused() {
		if well.Check(p) == api.OK {
			t.Errorf("%s: it is well made", name)
		}
		nothing(t, name, p)
	}
}

// P12.1: Sites.
func TestP12_1Sites(t *testing.T) {
	p := net(each(to(1)), to(1, 0, method(0)), to(2), nil, to(method(0), method(0)))
	p.Funcs[2] = fun(none,
		block(to(api.TFace), branch(2, 2, 1), call(3, 0), bit(1)),
		block(nil, jump(3)),
		block(nil, jump(3), ask(0, 0), num(5), tell(4), call(1, 0), call(1, 0)),
		block(nil, ret(0), num(1), num(2), call(0)),
	)
	ready(t, "sites", p)
	held(t, p)
	site := func(block, at int) api.Site { return api.Site{Fun: 2, Block: block, At: at} }
	for _, x := range []struct {
		fun  int
		want []api.Site
	}{
		{-1, nil}, {-1 << 63, nil}, {4, nil}, {5, nil}, {1<<63 - 1, nil},
		{0, []api.Site{{At: 3}, {At: 4}, {At: 5}}},
		{1, []api.Site{{Fun: 1}}},
		{2, []api.Site{site(0, 0), site(2, 0), site(2, 3), site(2, 4), site(3, 2)}},
		{3, []api.Site{{Fun: 3}, {Fun: 3, At: 1}}},
	} {
		if got := calls.Sites(p, x.fun); !slices.Equal(got, x.want) {
			t.Errorf("of %d: %v, not %v", x.fun, got, x.want)
		}
	}
	for fun := range 2 {
		if got := calls.Sites(plain(nil, nil), fun); len(got) > 0 {
			t.Errorf("of %d, which calls nothing: %v", fun, got)
		}
	}
}

// P12.1: May.
func TestP12_1May(t *testing.T) {
	methods := each(to(3, -1, 2, -1<<62), to(1, -2, 2, 3), to(-1, -3, 2, -1), to(3, -1, 2, 1), to(2, -1, 2, 1))
	p := net(methods, to(1), nil, nil, nil)
	ready(t, "may", p)
	held(t, p)
	for _, x := range []struct {
		o    api.Op
		want []int
	}{
		{call(-1), nil}, {call(0), to(0)}, {call(1), to(1)}, {call(3), to(3)}, {call(4), nil},
		{call(-1 << 63), nil}, {call(1<<63 - 1), nil}, {call(1 << 32), nil}, {call(1<<32 + 1), nil},
		{ask(-1, 0), nil}, {ask(0, 0), to(1, 2, 3)}, {ask(1, 0), nil}, {ask(2, 0), to(2)}, {ask(3, 0), to(1, 3)}, {ask(4, 0), nil},
		{ask(-1<<63, 0), nil}, {ask(1<<63-1, 0), nil}, {ask(1<<32, 0), nil}, {ask(1<<32+2, 0), nil},
		// What a step is of plays no part.
		{call(2, 7, -5), to(2)}, {ask(2, -9, 1<<40), to(2)}, {api.Op{K: api.OpCall, N: 2, S: "x", B: -3, Stack: true}, to(2)},
	} {
		if got := calls.May(p, x.o); !slices.Equal(got, x.want) {
			t.Errorf("of %v: %v, not %v", x.o, got, x.want)
		}
	}
	for k := -2; k <= api.Ops+1; k++ {
		for n := range int64(4) {
			if got := calls.May(p, api.Op{K: k, N: n}); len(got) > 0 && k != api.OpCall && k != api.OpAsk {
				t.Errorf("of a step of kind %d: %v", k, got)
			}
		}
	}
	// There are methods, but no classes that could have them; and classes, but no methods.
	if got := calls.May(&api.Prog{Sigs: p.Sigs, Funcs: plain(nil).Funcs}, ask(0, 0)); len(got) > 0 {
		t.Error(got)
	}
	if got := calls.May(&api.Prog{Sigs: p.Sigs, Funcs: []api.Func{fun(api.TInt, block(nil, ret(0), num(1)))}}, ask(0, 0)); len(got) > 0 {
		t.Error(got)
	}
	if got := calls.May(plain(nil), ask(0, 0)); len(got) > 0 {
		t.Error(got)
	}
}

// P12.1: Callees.
func TestP12_1Callees(t *testing.T) {
	apart := plain(nil, nil, nil, nil)
	apart.Funcs[1] = fun(none,
		block(to(api.TFace), branch(1, 2, 1), bit(1)),
		block(nil, ret(0), call(3, 0)), // no run comes here
		block(nil, ret(0), call(2, 0)),
	)
	for _, x := range []struct {
		name string
		p    *api.Prog
		want [][]int
	}{
		{"nothing", plain(nil), each(nil)},
		{"nothing, of two", plain(nil, nil), each(nil, nil)},
		{"itself", plain(to(0)), each(to(0))},
		{"again and again", plain(to(1, 1, 2, 1), to(2, 2), nil), each(to(1, 2), to(2), nil)},
		{"falling", plain(to(3, 2, 1, 0), to(3, 1), nil, to(2, 0)), each(to(0, 1, 2, 3), to(1, 3), nil, to(0, 2))},
		{"the last one of 16", plain(slices.Concat(each(to(15)), slices.Repeat(each(nil), 14), each(to(0)))...), slices.Concat(each(to(15)), slices.Repeat(each(nil), 14), each(to(0)))},
		{"asked", net(each(to(2), to(1), to(-1), to(2)), to(method(0)), nil, nil), each(to(1, 2), nil, nil)},
		{"asked of none", net(each(to(-1), to(-7)), to(method(0)), to(method(0), method(0))), each(nil, nil)},
		{"called and asked", net(each(to(3, 1), to(2, 1)), to(method(0), 1, 3, method(0), 2), to(method(1), 1), to(method(1), 0, method(0)), nil), each(to(1, 2, 3), to(1), to(0, 1, 2, 3), nil)},
		{"where no run comes", apart, each(nil, to(2, 3), nil, nil)},
	} {
		ready(t, x.name, x.p)
		held(t, x.p)
		if got := calls.Callees(x.p); !lists(got, x.want) {
			t.Errorf("%s: %v, not %v", x.name, got, x.want)
		}
	}
}
