package uses_test

import (
	"math/rand"
	"testing"

	"hallmark/api"
	"hallmark/code"
	"hallmark/show"
	"hallmark/well"
)

// noted is held, and counts what was met, so that no test is about nothing.
func noted(t *testing.T, tally map[string]int, f api.Func) answers {
	t.Helper()
	a := held(t, f)
	if want := settled(f); !lists(a.needed, want) {
		t.Fatalf("Needed %v, not %v, of\n%s", a.needed, want, show.Func(f))
	}
	note := func(name string, is bool) {
		if is {
			tally[name]++
		}
	}
	for at := range f.Blocks {
		needs, leaves := len(a.needed[at]), len(a.left[at])
		note("a block needs several", needs > 2)
		note("a block leaves what it makes", leaves > 0 && makes(f, at, a.left[at][leaves-1]))
		note("a block leaves more than it needs", leaves > needs)
		note("a block needs more than it leaves", leaves < needs)
	}
	for value, n := range a.counts {
		note("nobody uses it", n == 0)
		note("twice in a place", n > len(a.of[value+1]))
		note("in several places", len(a.of[value+1]) > 1)
	}
	note("the first one needs", len(a.needed) > 0 && len(a.needed[0]) > 0)
	note("nothing is needed", a.most == 0)
	return a
}

// enough asks that each of these was met often.
func enough(t *testing.T, tally map[string]int, least int, names ...string) {
	t.Helper()
	for _, name := range names {
		if tally[name] < least {
			t.Errorf("%s: %d times alone", name, tally[name])
		}
	}
}

// P13.1 to P13.4, of all functions of up to three blocks, each of which makes a value or is of one, and goes to up to two blocks.
func TestAllSmall(t *testing.T) {
	tally := map[string]int{}
	for size := 1; size <= 3; size++ {
		var blocks []api.Block
		for value := -1; value <= size; value++ {
			step := tell(value)
			if value < 0 {
				step = num()
			}
			for then := 0; then <= size; then++ {
				for other := then; other <= size; other++ {
					// What a branch asks stands in the last block, which makes nothing.
					blocks = append(blocks, block(0, branch(size-1, then, nil, other, nil), step))
				}
			}
			blocks = append(blocks, block(0, ret(0), step), block(0, stop(0), step), block(0, jump(size-1, 0, 0), step))
		}
		all := 1
		for range size {
			all *= len(blocks)
		}
		for bits := 0; bits < all; bits += 1 + size/3*6 {
			f := fun(none)
			for n := bits; len(f.Blocks) < size; n /= len(blocks) {
				f.Blocks = append(f.Blocks, blocks[n%len(blocks)])
			}
			noted(t, tally, f)
		}
	}
	enough(t, tally, 100, "a block leaves what it makes", "a block leaves more than it needs", "a block needs more than it leaves", "nobody uses it", "twice in a place", "in several places", "the first one needs", "nothing is needed")
}

// wild is a function whose kinds and numbers are anything, some of them none of its own.
func wild(r *rand.Rand) api.Func {
	blocks := r.Intn(api.MaxBlocks / 4)
	near := 1 + r.Intn(40)
	number := func() int {
		switch r.Intn(20) {
		case 0:
			return int(r.Uint64())
		case 1:
			return -1 - r.Intn(2)
		}
		return r.Intn(near)
	}
	list := func() []int {
		l := make([]int, max(0, r.Intn(6)-2))
		for at := range l {
			l[at] = number()
		}
		return l
	}
	target := func() int { return r.Intn(blocks+2) - r.Intn(2) }
	f := fun(-1 + r.Intn(3))
	for range blocks {
		b := block(r.Intn(3), api.End{K: r.Intn(6) - r.Intn(2), A: number(), To: target(), Else: target(), L: list(), M: list()})
		if r.Intn(2) == 0 {
			b.End.K = r.Intn(2)
		}
		for range r.Intn(6) {
			b.Ops = append(b.Ops, api.Op{K: r.Intn(api.Ops+2) - 1, A: number(), B: number(), C: number(), N: int64(number()), L: list()})
		}
		f.Blocks = append(f.Blocks, b)
	}
	return f
}

// P13.1 to P13.4, of functions that are not well made.
func TestDrawnWild(t *testing.T) {
	r := rand.New(rand.NewSource(131))
	tally := map[string]int{}
	for range 3000 {
		noted(t, tally, wild(r))
	}
	enough(t, tally, 200, "a block needs several", "a block leaves what it makes", "a block leaves more than it needs", "a block needs more than it leaves", "nobody uses it", "twice in a place", "in several places", "the first one needs", "nothing is needed")
}

// P13.1 to P13.5, of functions that are well made.
func TestDrawnWell(t *testing.T) {
	m := &maker{Rand: rand.New(rand.NewSource(132))}
	tally := map[string]int{}
	for range 800 {
		p := m.prog()
		if err := well.Check(p); err != api.OK {
			t.Fatalf("%v\n%s", err, show.Prog(p))
		}
		for _, f := range p.Funcs {
			if a := noted(t, tally, f); len(a.needed[0]) > 0 {
				t.Fatalf("the first block needs %v, of\n%s", a.needed[0], show.Func(f))
			}
		}
	}
	enough(t, tally, 200, "a block needs several", "a block leaves what it makes", "a block leaves more than it needs", "nobody uses it", "twice in a place", "in several places", "nothing is needed")
}

// P13.1 to P13.4, of functions that were well made, and of which one number is another one now.
func TestDrawnSpoiled(t *testing.T) {
	m := &maker{Rand: rand.New(rand.NewSource(133))}
	tally := map[string]int{}
	for range 400 {
		for _, f := range m.prog().Funcs {
			f = roomy(f)
			b := &f.Blocks[m.Intn(len(f.Blocks))]
			places := []*int{&f.Ret, &b.End.K, &b.End.A, &b.End.To, &b.End.Else}
			places = append(places, placesOf(b)...)
			*places[m.Intn(len(places))] = m.Intn(code.Values(f)+4) - 2
			noted(t, tally, f)
		}
	}
	enough(t, tally, 20, "the first one needs", "a block needs several", "a block leaves what it makes", "a block needs more than it leaves")
}

// placesOf are the places of a block at which values are named, and kinds.
func placesOf(b *api.Block) []*int {
	l := append(places(b.End.L), places(b.End.M)...)
	for at := range b.Ops {
		o := &b.Ops[at]
		l = append(append(l, &o.K, &o.A, &o.B, &o.C), places(o.L)...)
	}
	return l
}
