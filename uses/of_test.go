package uses_test

import (
	"math"
	"slices"
	"strings"
	"testing"

	"hallmark/api"
	"hallmark/code"
	"hallmark/kind"
	"hallmark/show"
	"hallmark/uses"
)

// at are places, written shortly: block, step, block, step.
func at(l ...int) []api.Site {
	var sites []api.Site
	for n := 0; n < len(l); n += 2 {
		sites = append(sites, api.Site{Fun: 0, Block: l[n], At: l[n+1]})
	}
	return sites
}

// arms is a function that branches, once with every value in a place of its own, once with some in several.
func arms(tells int, fork api.End) api.Func {
	return fun(tells,
		block(0, fork, bit(), num(), num(), num()),
		block(1, jump(3, 4)),
		block(1, jump(3, 5)),
		block(1, ret(6)),
	)
}

// P13.1: Of, by hand.
func TestP13_1Of(t *testing.T) {
	line := fun(api.TInt,
		block(1, jump(1), num(), sum(0, 1), tell(2), sum(0, 0), num()),
		block(0, jump(2), tell(0), tell(3), tell(0), call(0, 1, 2, 0)),
		block(0, ret(2), tell(1)),
	)
	forked := arms(api.TInt, branch(0, 1, to(1), 2, to(2)))
	for _, x := range []struct {
		name  string
		f     api.Func
		value int
		want  []api.Site
	}{
		{"nothing is of it", line, 5, nil},
		{"nothing is of it, a step that comes to nothing", line, 9, nil},
		{"one step is of it", fun(none, block(0, ret(0), num(), num(), tell(1))), 1, at(0, 2)},
		{"several steps, twice in one, in two blocks", line, 0, at(0, 1, 0, 3, 1, 0, 1, 2, 1, 3)},
		{"one block after another", line, 1, at(0, 1, 1, 3, 2, 0)},
		{"a step, a call, and a ret", line, 2, at(0, 2, 1, 3, 2, 1)},
		{"a step that comes to nothing, told", line, 3, at(1, 1)},
		{"below 0", line, -1, nil},
		{"the last one", line, 10, nil},
		{"one behind the last", line, 11, nil},
		{"far below 0", line, math.MinInt, nil},
		{"far beyond", line, math.MaxInt, nil},
		{"beyond what 32 bits hold", line, 1 << 32, nil},
		{"A of a branch", forked, 0, at(0, 4)},
		{"handed to a branch's first target", forked, 1, at(0, 4)},
		{"handed to a branch's second target", forked, 2, at(0, 4)},
		{"of no branch", forked, 3, nil},
		{"handed on by a jump", forked, 4, at(1, 0)},
		{"handed on by another jump", forked, 5, at(2, 0)},
		{"the last one, a ret", forked, 6, at(3, 0)},
		{"one behind the last, and there is none", forked, 7, nil},
		{"handed to both targets", arms(none, branch(0, 1, to(3), 2, to(3))), 3, at(0, 4)},
		{"A, and handed to the first target", arms(none, branch(1, 1, to(1), 2, to(2))), 1, at(0, 4)},
		{"A, and handed to the second target", arms(none, branch(2, 1, to(1), 2, to(2))), 2, at(0, 4)},
		{"A, and handed to both targets", arms(none, branch(3, 1, to(3, 3), 2, to(3))), 3, at(0, 4)},
		{"a ret of a function that tells nothing", arms(none, jump(1, 0)), 6, nil},
		{"a ret of a function that tells something", arms(api.TPtr, jump(1, 0)), 6, at(3, 0)},
		{"a stop of a function that tells nothing", fun(none, block(1, stop(0))), 0, at(0, 0)},
		{"a stop of a function that tells something", fun(api.TInt, block(1, stop(0))), 0, at(0, 0)},
		{"a jump twice", fun(none, block(1, jump(0, 0, 0))), 0, at(0, 0)},
		{"a jump to a block that is not there", fun(none, block(1, jump(-7, 0))), 0, at(0, 0)},
		{"a step, and its block's end", fun(none, block(1, jump(1, 0), tell(0)), block(1, ret(0))), 0, at(0, 0, 0, 1)},
		{"a value of a block that is not met", fun(none, block(0, ret(0)), block(0, ret(0), num(), tell(0))), 0, at(1, 1)},
		{"ahead of where it is made", fun(none, block(0, ret(0), tell(1), num())), 1, at(0, 0)},
		{"itself", fun(none, block(0, ret(0), tell(0))), 0, at(0, 0)},
		{"no blocks", fun(none), 0, nil},
		{"no values", fun(api.TInt, block(0, ret(0))), 0, nil},
		{"a value that is not there, told all the same", fun(none, block(0, stop(2), tell(2), tell(1))), 2, nil},
		{"a value below 0, told all the same", fun(none, block(0, stop(-1), tell(-1))), -1, nil},
	} {
		if got := uses.Of(x.f, x.value); !slices.Equal(got, x.want) {
			t.Errorf("%s: %v, not %v, of %d in\n%s", x.name, got, x.want, x.value, show.Func(x.f))
		}
		held(t, x.f)
	}
}

// P13.1: of steps of each kind, just the fields that play a part.
func TestP13_1EachKind(t *testing.T) {
	for k := -1; k <= api.Ops; k++ {
		f := fun(none, block(6, ret(0), api.Op{K: k, N: 5, A: 0, B: 1, C: 2, L: to(4, 3, 4), S: "x"}, num()))
		want := make([]int, 8)
		for value, often := range to(1, 1, 1, 1, 2) {
			if strings.Contains(kind.Fields(k), "ABCLL"[value:value+1]) {
				want[value] = often
			}
		}
		if got := uses.Counts(f); !slices.Equal(got, want) {
			t.Errorf("Counts of kind %d: %v, not %v", k, got, want)
		}
		for value, often := range want {
			if got := uses.Of(f, value); !slices.Equal(got, at(0, 0)[:min(often, 1)]) {
				t.Errorf("Of of kind %d, of %d: %v", k, value, got)
			}
		}
	}
}

// P13.1: of ends of each kind, just what plays a part.
func TestP13_1EachEnd(t *testing.T) {
	for _, x := range []struct {
		k, tells int
		want     []int
	}{
		{api.EndJump, none, to(0, 1, 2, 0, 0)}, {api.EndJump, api.TInt, to(0, 1, 2, 0, 0)},
		{api.EndBranch, none, to(1, 1, 2, 2, 1)}, {api.EndBranch, api.TInt, to(1, 1, 2, 2, 1)},
		{api.EndRet, none, to(0, 0, 0, 0, 0)}, {api.EndRet, api.TInt, to(1, 0, 0, 0, 0)},
		{api.EndRet, api.TFace, to(1, 0, 0, 0, 0)}, {api.EndRet, api.TPtr + 3, to(1, 0, 0, 0, 0)},
		{api.EndStop, none, to(1, 0, 0, 0, 0)}, {api.EndStop, api.TInt, to(1, 0, 0, 0, 0)},
		{4, api.TInt, to(0, 0, 0, 0, 0)}, {-1, api.TInt, to(0, 0, 0, 0, 0)}, {math.MaxInt, api.TInt, to(0, 0, 0, 0, 0)}, {math.MinInt, none, to(0, 0, 0, 0, 0)},
	} {
		f := fun(x.tells, block(5, api.End{K: x.k, A: 0, L: to(2, 1, 2), M: to(3, 4, 3)}))
		if got := uses.Counts(f); !slices.Equal(got, x.want) {
			t.Errorf("Counts of end %d of %d: %v, not %v", x.k, x.tells, got, x.want)
		}
		for value, often := range x.want {
			if got := uses.Of(f, value); !slices.Equal(got, at(0, 0)[:min(often, 1)]) {
				t.Errorf("Of of end %d of %d, of %d: %v", x.k, x.tells, value, got)
			}
		}
		held(t, f)
	}
}

// P13.1: Counts, by hand.
func TestP13_1Counts(t *testing.T) {
	for _, x := range []struct {
		name string
		f    api.Func
		want []int
	}{
		{"no blocks", fun(none), nil},
		{"no blocks, but a type", fun(api.TInt), nil},
		{"no steps, no parameters", fun(none, block(0, ret(0))), nil},
		{"no steps, no parameters, a value that is not there", fun(api.TInt, block(0, ret(0))), nil},
		{"no steps", fun(none, block(2, jump(1, 1)), block(1, jump(1, 2))), to(0, 1, 1)},
		{"used by nobody", fun(none, block(2, ret(0), num(), tell(0), num())), to(1, 0, 0, 0, 0)},
		{"twice in one step", fun(none, block(1, ret(0), sum(0, 0))), to(2, 0)},
		{"three times in one step", fun(none, block(1, ret(0), api.Op{K: api.OpPut})), to(3, 0)},
		{"in a list, and beside it", fun(none, block(2, ret(0), api.Op{K: api.OpAsk, A: 1, L: to(1, 0, 1)})), to(1, 3, 0)},
		{"twice in one end", fun(none, block(1, jump(0, 0, 0))), to(2)},
		{"four times in one end", fun(none, block(1, branch(0, 0, to(0, 0), 0, to(0)))), to(4)},
		{"in steps and ends of several blocks", fun(api.TInt, block(2, branch(1, 1, to(0), 2, nil), sum(0, 1)), block(1, stop(0), tell(3)), block(0, ret(0), tell(0), tell(2))), to(5, 2, 1, 1, 0, 0, 0)},
		{"numbers that are no value's", fun(api.TInt, block(1, ret(4), tell(-1), tell(4), call(-1, 0, 4, 1<<40, -1<<40))), to(1, 0, 0, 0)},
		{"of blocks that are not met", fun(none, block(1, ret(0)), block(1, jump(0, 1, 0))), to(1, 1)},
	} {
		if got := uses.Counts(x.f); !slices.Equal(got, x.want) || len(got) != code.Values(x.f) {
			t.Errorf("%s: %v, not %v", x.name, got, x.want)
		}
		held(t, x.f)
	}
}

// P13.1: one list that stands in several places is gone through in each.
func TestOneListInSeveralPlaces(t *testing.T) {
	l := to(0, 1, 0)
	steps := []api.Op{call(l...), {K: api.OpNew, L: l}}
	steps[0].L = l
	b := api.Block{Params: l, Ops: steps, End: branch(0, 1, l, 0, l)}
	f := fun(none, b, b)
	if got, want := uses.Counts(f), to(18, 8, 0, 0, 0, 0, 0, 0, 0, 0); !slices.Equal(got, want) {
		t.Error(got, want)
	}
	if got := uses.Of(f, 1); !slices.Equal(got, at(0, 0, 0, 1, 0, 2, 1, 0, 1, 1, 1, 2)) {
		t.Error(got)
	}
	if got := uses.Needed(f); !lists(got, each(nil, to(0, 1))) {
		t.Error(got)
	}
	held(t, f)
	if !slices.Equal(l, to(0, 1, 0)) {
		t.Error(l)
	}
}
