package run_test

import (
	"math"
	"runtime"
	"slices"
	"testing"

	"hallmark/api"
	"hallmark/run"
)

// ever is a function that does these steps, and calls itself.
func ever(fun1 int, ops ...api.Op) api.Func {
	return fun(none, block(nil, ret(0), append(slices.Clone(ops), call(fun1))...))
}

// P11.2: a run has no bound of calls in one another but fuel.
func TestP11_2DeepCalls(t *testing.T) {
	p := alone(main(ret(0), num(1), call(1)), ever(1))
	for _, fuel := range []int{1, 2, 3, 10, 1000} {
		comes(t, "for ever", p, nil, plenty, fuel, api.Outcome{End: api.NoFuel, Steps: fuel})
	}
	for _, fuel := range []int{100000, api.MaxFuel, api.MaxFuel + 1, math.MaxInt} {
		want := api.Outcome{End: api.NoFuel, Steps: min(fuel, api.MaxFuel)}
		if got := run.Run(p, nil, plenty, fuel); !alikeOutcomes(got, want) {
			t.Errorf("for ever: %+v, not %+v", got, want)
		}
	}
	p = alone(main(ret(0), num(1), call(1)), ever(2, laid(table())), ever(1, str("x")))
	if got := run.Run(p, nil, plenty, api.MaxFuel); !alikeOutcomes(got, api.Outcome{End: api.NoFuel, Steps: api.MaxFuel}) {
		t.Errorf("two for ever: %+v", got)
	}
}

// deep comes to its number, by so many calls in one another: seven steps each, and seven beside.
func deep() *api.Prog {
	return alone(
		fun(api.TInt, block(to(0), ret(1), call(1, 0))),
		fun(api.TInt,
			block(to(0), branch(2, 1, nil, 2, nil), num(1), arith(api.Less, 0, 1)),
			block(nil, ret(3), num(0)),
			block(nil, ret(6), arith(api.Sub, 0, 1), call(1, 4), arith(api.Add, 5, 1))))
}

// P11.2: calls come back from as deep as fuel leads.
func TestP11_2DeepCallsComeBack(t *testing.T) {
	for _, n := range numbers(0, 1, 2, 10, 1000) {
		comes(t, "deep", deep(), numbers(n), plenty, plenty, api.Outcome{Code: n, Steps: int(n)*7 + 7})
	}
	const most = 149795
	all := api.Outcome{Code: most, Steps: most*7 + 7}
	for _, x := range []struct {
		n    int64
		fuel int
		want api.Outcome
	}{
		{most, api.MaxFuel, all},
		{most, all.Steps, all},
		{most, all.Steps - 1, api.Outcome{End: api.NoFuel, Steps: all.Steps - 1}},
		{most + 1, api.MaxFuel, api.Outcome{End: api.NoFuel, Steps: api.MaxFuel}},
	} {
		if got := run.Run(deep(), numbers(x.n), 0, x.fuel); !alikeOutcomes(got, x.want) {
			t.Errorf("%d: %+v, not %+v", x.n, got, x.want)
		}
	}
}

// taken is how many bytes of memory a run takes on its way.
func taken(p *api.Prog, fuel int) (api.Outcome, uint64) {
	var before, after runtime.MemStats
	runtime.ReadMemStats(&before)
	x := run.Run(p, nil, 0, fuel)
	runtime.ReadMemStats(&after)
	return x, after.TotalAlloc - before.TotalAlloc
}

// P11.2: calls in one another take memory for what came, not for what their functions might do: else a function as great as can be, again and again, would take more than there is.
func TestP11_2DeepCallsOfGreatFunctions(t *testing.T) {
	// Block 1 is great, and never gone to; block 2 stands behind it.
	great := fun(none,
		block(nil, branch(0, 1, nil, 2, nil), bit(0)),
		block(nil, ret(0), slices.Repeat([]api.Op{num(1)}, 690)...),
		block(nil, ret(0), call(1)))
	p := alone(main(ret(0), num(1), call(1)), great)
	ready(t, "great", p)
	got, bytes := taken(p, api.MaxFuel)
	if !alikeOutcomes(got, api.Outcome{End: api.NoFuel, Steps: api.MaxFuel}) {
		t.Errorf("great: %+v", got)
	}
	if bytes > 1<<30 {
		t.Error("too much memory:", bytes)
	}
}
