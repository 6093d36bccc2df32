package run_test

import (
	"math/rand"
	"slices"
	"testing"

	"hallmark/api"
	"hallmark/run"
	"hallmark/show"
)

// tally counts how runs end, and what fails.
type tally struct{ ends, fails map[int]int }

func newTally() tally { return tally{map[int]int{}, map[int]int{}} }

func (c tally) note(x api.Outcome) {
	c.ends[x.End]++
	if x.End == api.Failed {
		c.fails[int(x.Code)]++
	}
}

// both is what comes of a run: of the program, and of the model, which must be the same.
func both(t *testing.T, p *api.Prog, in []int64, limit, fuel int) api.Outcome {
	t.Helper()
	got, want := run.Run(p, in, limit, fuel), modelled(p, in, limit, fuel)
	if !alikeOutcomes(got, want) {
		t.Fatalf("of %v, room %d, fuel %d: %+v, not %+v\n%s", in, limit, fuel, got, want, show.Prog(p))
	}
	return got
}

// inputs are the numbers that a drawn program is handed.
func inputs(r *rand.Rand) []int64 {
	edges := numbers(0, 1, 2, 3, -1, 7, least, greatest)
	return numbers(edges[r.Intn(len(edges))], edges[r.Intn(len(edges))])
}

// begins tells whether a trace is a beginning of another one.
func begins(a, b []string) bool { return len(a) <= len(b) && slices.Equal(a, b[:len(a)]) }

// P11.1 to P11.4: drawn programs come to what the chapter's words say; a run changes nothing that it is handed, and two come to the same.
func TestDrawn(t *testing.T) {
	r := rand.New(rand.NewSource(11))
	all, kinds := newTally(), map[int]int{}
	for n, p := range slices.Concat(made(111, 500, true), made(112, 300, false)) {
		for _, f := range p.Funcs {
			for _, b := range f.Blocks {
				kinds[100+b.End.K]++
				for _, o := range b.Ops {
					kinds[o.K]++
				}
			}
		}
		for range 4 {
			in, limit, fuel := inputs(r), r.Intn(600), []int{r.Intn(100), 3000}[r.Intn(2)]
			if r.Intn(3) > 0 {
				limit = plenty
			}
			all.note(both(t, p, in, limit, fuel))
			if n%5 == 0 {
				ran(t, p, in, limit, fuel)
			}
		}
	}
	if len(kinds) != api.Ops+4 {
		t.Error("not all kinds of steps and ends were drawn:", kinds)
	}
	for end := range api.Bad {
		if all.ends[end] < 40 {
			t.Error("too few of an end:", end, all.ends)
		}
	}
	for code := api.FailDiv; code < api.FailText; code++ {
		if all.fails[code] < 8 {
			t.Error("too few of a failure:", code, all.fails)
		}
	}
	if all.ends[api.Bad] > 0 {
		t.Error("bad:", all.ends)
	}
}

// P11.5: at each fuel, from 0 to what is enough, and more: with less a run ends with NoFuel, all of it paid, and has told a beginning; with as much, or more, it ends alike.
func TestP11_5Fuel(t *testing.T) {
	r := rand.New(rand.NewSource(115))
	all, told := newTally(), 0
	for _, p := range slices.Concat(made(1151, 120, true), made(1152, 60, false)) {
		in := inputs(r)
		limit := []int{plenty, r.Intn(300)}[r.Intn(2)]
		const most = 250
		last := both(t, p, in, limit, most)
		all.note(last)
		var ahead api.Outcome
		for fuel := range min(last.Steps+4, most) {
			x := both(t, p, in, limit, fuel)
			if fuel >= last.Steps {
				if !alikeOutcomes(x, last) {
					t.Fatalf("with more fuel, %d: %+v, not %+v\n%s", fuel, x, last, show.Prog(p))
				}
				continue
			}
			if x.End != api.NoFuel || x.Code != 0 || x.Steps != fuel || !begins(x.Trace, last.Trace) {
				t.Fatalf("with less fuel, %d: %+v, beside %+v\n%s", fuel, x, last, show.Prog(p))
			}
			if !begins(ahead.Trace, x.Trace) || ahead.Used > x.Used || ahead.Makes > x.Makes {
				t.Fatalf("with one more fuel, %d: %+v, beside %+v\n%s", fuel, x, ahead, show.Prog(p))
			}
			ahead = x
			if len(x.Trace) > 0 {
				told++
			}
		}
	}
	for end := range api.Bad {
		if all.ends[end] < 5 {
			t.Error("too few of an end:", end, all.ends)
		}
	}
	if told < 1000 {
		t.Error("too few that told anything:", told)
	}
}

// P11.6: at each room, from 0 to what is enough, and more: with less a run ends with NoRoom, and has told a beginning; with as much, or more, it ends alike.
func TestP11_6Room(t *testing.T) {
	r := rand.New(rand.NewSource(116))
	all, short, told := newTally(), 0, 0
	for _, p := range slices.Concat(made(1161, 170, true), made(1162, 90, false)) {
		in := inputs(r)
		last := both(t, p, in, plenty, 300)
		if last.Used == 0 || last.Used > 300 {
			continue
		}
		all.note(last)
		for limit := range last.Used + 10 {
			x := both(t, p, in, limit, 300)
			if limit >= last.Used {
				if !alikeOutcomes(x, last) {
					t.Fatalf("with more room, %d: %+v, not %+v\n%s", limit, x, last, show.Prog(p))
				}
				continue
			}
			if x.End != api.NoRoom || x.Code != 0 || x.Used > limit || x.Steps > last.Steps || !begins(x.Trace, last.Trace) {
				t.Fatalf("with less room, %d: %+v, beside %+v\n%s", limit, x, last, show.Prog(p))
			}
			short++
			if len(x.Trace) > 0 {
				told++
			}
		}
	}
	for _, end := range to(api.Done, api.Stopped, api.Failed, api.NoFuel, api.Stale) {
		if all.ends[end] < 5 {
			t.Error("too few of an end:", end, all.ends)
		}
	}
	if short < 3000 || told < 500 {
		t.Error("too few of a kind:", short, told)
	}
}

// P11.7: without Stack no run ends with Stale, and no run of a well made program that is handed as many numbers as it wants with Bad, at whatever room and fuel.
func TestP11_7NeverStale(t *testing.T) {
	r := rand.New(rand.NewSource(117))
	for _, stack := range []bool{false, true} {
		all := newTally()
		for _, p := range made(1171, 700, stack) {
			for range 4 {
				x := both(t, p, inputs(r), []int{plenty, r.Intn(300), 0, -1}[r.Intn(4)], []int{2000, r.Intn(50)}[r.Intn(2)])
				all.note(x)
			}
			if x := run.Run(p, []int64{1}, plenty, plenty); !alikeOutcomes(x, api.Outcome{End: api.Bad}) {
				t.Fatal("one number too few:", x)
			}
			// Without Stack the same program never comes to what is gone.
			bare := clone(p)
			for _, f := range bare.Funcs {
				for _, b := range f.Blocks {
					for at := range b.Ops {
						b.Ops[at].Stack = false
					}
				}
			}
			if x := both(t, bare, inputs(r), plenty, 2000); x.End == api.Stale || x.End == api.Bad {
				t.Fatalf("without Stack: %+v\n%s", x, show.Prog(bare))
			}
		}
		if all.ends[api.Bad] > 0 || !stack && all.ends[api.Stale] > 0 || stack && all.ends[api.Stale] < 20 {
			t.Error(stack, all.ends)
		}
	}
}
