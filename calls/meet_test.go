package calls_test

import (
	"slices"
	"testing"

	"hallmark/api"
	"hallmark/calls"
)

// scene is a program, and what is told of how its functions meet.
type scene struct {
	name           string
	p              *api.Prog
	groups, upward []int
}

func played(t *testing.T, scenes []scene) {
	t.Helper()
	for _, s := range scenes {
		ready(t, s.name, s.p)
		held(t, s.p)
		if got := calls.Groups(s.p); !slices.Equal(got, s.groups) {
			t.Errorf("%s: Groups %v, not %v", s.name, got, s.groups)
		}
		if got := calls.Upward(s.p); !slices.Equal(got, s.upward) {
			t.Errorf("%s: Upward %v, not %v", s.name, got, s.upward)
		}
	}
}

// P12.2: Groups.
func TestP12_2Groups(t *testing.T) {
	played(t, []scene{
		{"one", plain(nil), to(-1), to(0)},
		{"itself", plain(to(0)), to(0), to(0)},
		{"itself, behind another one", plain(to(1), to(1)), to(-1, 1), to(1, 0)},
		{"not itself", plain(to(1), nil), to(-1, -1), to(1, 0)},
		{"two", plain(to(1), to(0)), to(0, 0), to(0, 1)},
		{"two that nobody calls", plain(nil, to(2), to(1)), to(-1, 1, 1), to(0, 1, 2)},
		{"three", plain(nil, to(3), to(1), to(2)), to(-1, 1, 1, 1), to(0, 1, 2, 3)},
		{"three, the other way round", plain(nil, to(2), to(3), to(1)), to(-1, 1, 1, 1), to(0, 1, 2, 3)},
		{"three, of which one meets itself", plain(nil, to(2), to(3), to(1, 3)), to(-1, 1, 1, 1), to(0, 1, 2, 3)},
		{"two that meet a group", plain(to(1), to(2), to(3), to(2)), to(-1, -1, 2, 2), to(2, 1, 0, 3)},
		{"a group that meets two", plain(to(1), to(0, 2), to(3), nil), to(0, 0, -1, -1), to(0, 3, 2, 1)},
		{"between two groups", plain(to(1), to(0, 2), to(3), to(4), to(3)), to(0, 0, -1, 3, 3), to(0, 3, 2, 1, 4)},
		{"two groups beside one another", plain(to(1, 2), to(3), to(4), to(1), to(2)), to(-1, 1, 2, 1, 2), to(1, 2, 0, 3, 4)},
		{"two groups, one behind the other", plain(nil, to(3, 2), to(4), to(1), to(2)), to(-1, 1, 2, 1, 2), to(0, 2, 1, 3, 4)},
		{"by a method", net(each(to(2), to(-1)), nil, to(method(0)), to(1)), to(-1, 1, 1), to(0, 1, 2)},
		{"by a method of another class", net(each(to(3), to(1), to(1)), nil, to(method(0)), nil, to(2)), to(-1, 1, -1, -1), to(0, 2, 3, 1)},
		{"two ways round", plain(nil, to(2, 3), to(4), to(4), to(1)), to(-1, 1, 1, 1, 1), to(0, 1, 2, 3, 4)},
	})
}

// P12.2: Upward.
func TestP12_2Upward(t *testing.T) {
	none16, chain16, up16 := make([]int, 16), make([][]int, 16), make([][]int, 16)
	for n := range 16 {
		none16[n] = -1
		if n < 15 {
			chain16[n] = to(n + 1)
		}
		if n > 1 {
			up16[n] = to(n - 1)
		}
	}
	down := upTo(16)
	slices.Reverse(down)
	whole := slices.Repeat(each(upTo(16)), 16)
	played(t, []scene{
		{"apart", plain(nil, nil, nil, nil), to(-1, -1, -1, -1), to(0, 1, 2, 3)},
		{"the least first", plain(to(2), to(3), nil, nil), to(-1, -1, -1, -1), to(2, 0, 3, 1)},
		{"a lesser one is ready by a greater one", plain(to(4), nil, to(3), nil, to(2)), to(-1, -1, -1, -1, -1), to(1, 3, 2, 4, 0)},
		{"against the numbers", plain(chain16...), none16, down},
		{"with the numbers", plain(up16...), none16, upTo(16)},
		{"all of all", plain(whole...), make([]int, 16), upTo(16)},
		{"a group, one of it not ready yet", plain(to(1), to(2, 3), to(1), nil), to(-1, 1, 1, -1), to(2, 3, 1, 0)},
		{"a group, one of it not ready yet, and of it the least", plain(nil, to(2, 4), to(3), to(1), to(5), nil), to(-1, 1, 1, 1, -1, -1), to(0, 2, 3, 5, 4, 1)},
		{"a group behind a group", plain(nil, to(2, 3), to(1), to(4), to(3)), to(-1, 1, 1, 3, 3), to(0, 2, 3, 1, 4)},
		{"a group behind one that meets itself", plain(to(1), to(0, 2), to(2)), to(0, 0, 2), to(0, 2, 1)},
		{"both of no group", plain(nil, to(2), nil), to(-1, -1, -1), to(0, 2, 1)},
	})
}

// P12.3: Makes.
func TestP12_3(t *testing.T) {
	with := func(p *api.Prog, fun int, ops ...api.Op) *api.Prog {
		b := &p.Funcs[fun].Blocks[0]
		b.Ops = append(b.Ops, ops...)
		return p
	}
	bare := func(l ...[]int) *api.Prog {
		p := net(each(to(-1), to(2), to(-1), to(-1)), l...)
		p.Classes[3].Fields = to(api.TFace)
		return p
	}
	forked := bare(nil, nil, nil)
	forked.Funcs[0].Blocks = []api.Block{
		block(nil, branch(0, 1, 2), bit(1)),
		block(nil, ret(1), num(5)),
		block(nil, ret(2), num(6), laid(object(2))), // no run comes here
	}
	empty := &api.Prog{Classes: forked.Classes, Sigs: forked.Sigs, Funcs: slices.Clone(bare(nil, nil, nil).Funcs)}
	empty.Funcs[0] = fun(api.TInt, block(nil, ret(0), num(1)))
	for _, x := range []struct {
		name string
		p    *api.Prog
		want []int
	}{
		{"none", empty, nil},
		{"of function 0", bare(nil, nil, nil), to(0)},
		{"again and again", with(bare(nil, nil, nil), 0, object(2), object(0), object(2), object(1), object(1)), to(0, 1, 2)},
		{"of the last class", with(bare(nil, nil, nil), 0, object(3, 2)), to(0, 3)},
		{"on the stack", with(bare(nil, nil, nil), 0, laid(object(2)), laid(object(1))), to(0, 1, 2)},
		{"on the stack alone, where no run comes", forked, to(2)},
		{"behind a call", with(bare(to(1), nil, nil), 1, object(2)), to(0, 2)},
		{"behind a call of a call", with(bare(to(1), to(2), nil), 2, laid(object(2))), to(0, 2)},
		{"behind a method", with(bare(to(method(0)), nil, nil), 2, object(1)), to(0, 1)},
		{"behind a method that a function asks", with(bare(to(1), to(method(0)), nil), 2, object(1)), to(0, 1)},
		{"behind calls in a ring", with(bare(to(1), to(2), to(1, 0)), 2, object(3, 0)), to(0, 3)},
		{"of a function that is not met", with(bare(to(1), nil, nil), 2, object(1)), to(0)},
		{"of one that is not met, but meets function 0", with(bare(to(1), nil, to(0)), 2, object(1)), to(0)},
		{"of a method that nobody asks", with(bare(nil, to(method(0)), nil), 2, object(1)), to(0)},
		{"of function 0, which meets itself", with(bare(to(0), nil, nil), 2, object(1)), to(0)},
		{"other things alone", with(bare(nil, nil, nil), 0, api.Op{K: api.OpMake, N: 3}, api.Op{K: api.OpTable}, num(2)), to(0)},
	} {
		ready(t, x.name, x.p)
		held(t, x.p)
		if got := calls.Makes(x.p); !slices.Equal(got, x.want) {
			t.Errorf("%s: %v, not %v", x.name, got, x.want)
		}
	}
}

// P12.4, of rings and chains by hand (held asks it of all programs).
func TestP12_4(t *testing.T) {
	p := plain(to(1, 5), to(2), to(3, 4), to(1), nil, to(5, 4))
	ready(t, "rings", p)
	if g := calls.Groups(p); !slices.Equal(g, to(-1, 1, 1, 1, -1, 5)) {
		t.Error(g)
	}
	// 2 stands behind 4, and 5 behind it; 0 behind both rings; of a ring none need stand ahead.
	if u := calls.Upward(p); !slices.Equal(u, to(1, 3, 4, 2, 5, 0)) {
		t.Error(u)
	}
}
