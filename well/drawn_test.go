package well_test

import (
	"math"
	"math/rand"
	"slices"
	"testing"

	"hallmark/api"
	"hallmark/code"
	"hallmark/show"
	"hallmark/well"
)

// drawnProgs are well made programs, made up.
func drawnProgs(seed int64, many int) []*api.Prog {
	m := &maker{Rand: rand.New(rand.NewSource(seed))}
	var l []*api.Prog
	for range many {
		l = append(l, m.prog())
	}
	return l
}

// P9.2, P9.3: what is made up to be well made is so; it is what comes of its bytes; and so is what comes of them.
func TestWellMadeBytes(t *testing.T) {
	kinds := map[int]int{}
	for _, p := range append(drawnProgs(93, 600), world(), alone(seven())) {
		before := clone(p)
		if err := well.Check(p); err != api.OK {
			_, x := check(p)
			t.Fatal(err, x, "\n"+show.Prog(p))
		}
		if !exact(p, before) {
			t.Fatal("what was handed in is changed")
		}
		b, err := code.Encode(p)
		if err != api.OK {
			t.Fatal(err)
		}
		q, err := code.Decode(b)
		if err != api.OK || !code.Same(p, q) || !exact(q, code.Copy(p)) || well.Check(q) != api.OK {
			t.Fatal(err, "\n"+show.Prog(p))
		}
		for _, f := range p.Funcs {
			for _, b := range f.Blocks {
				kinds[100+b.End.K]++
				for _, o := range b.Ops {
					kinds[o.K]++
				}
			}
		}
	}
	if len(kinds) != api.Ops+4 {
		t.Error("not all kinds of steps and ends were met:", kinds)
	}
}

// P9.3: what does not keep a program from being well made is told by its bytes all the same: fields that play no part, and nothing else, are lost.
func TestWellMadeBytesOfWhatPlaysNoPart(t *testing.T) {
	for _, c := range allowed {
		p := c.turned()
		b, err := code.Encode(p)
		q, err2 := code.Decode(b)
		if err != api.OK || err2 != api.OK || !code.Same(p, q) || well.Check(q) != api.OK {
			t.Error(c.name, err, err2)
		}
	}
}

// held holds Check of a program against the chapter's words, and tells which rules were broken.
func held(t *testing.T, p *api.Prog) (api.Errno, map[string]int) {
	t.Helper()
	want, x := check(p)
	if got := well.Check(p); got != want {
		t.Fatalf("Check: %d, not %d, %v\n%s", got, want, x, show.Prog(p))
	}
	return want, x
}

// P9.2: of all the programs that are world but for one number, from below what that may be to beyond it.
func TestCheckOfEachNumber(t *testing.T) {
	tally := map[api.Errno]int{}
	note := func(p *api.Prog) {
		err, _ := held(t, p)
		tally[err]++
	}
	p := world()
	for _, n := range whole(p) {
		old := *n
		for is := -3; is < 36; is++ {
			*n = is
			note(p)
		}
		for _, *n = range to(math.MinInt, math.MaxInt, 1<<32+old, old-1<<32) {
			note(p)
		}
		*n = old
	}
	for _, n := range longs(p) {
		old := *n
		for is := int64(-3); is < 16; is++ {
			*n = is
			note(p)
		}
		for _, *n = range []int64{math.MinInt64, math.MaxInt64, 128, 129, 1<<32 + old, old - 1<<32} {
			note(p)
		}
		*n = old
	}
	for _, list := range ints(p) {
		old := *list
		for _, *list = range [][]int{append(slices.Clone(old), 0), append(to(0), old...), old[min(1, len(old)):], old[:max(0, len(old)-1)], nil} {
			note(p)
		}
		*list = old
	}
	if !exact(p, world()) {
		t.Fatal("world is another one")
	}
	if tally[api.OK] < 1000 || tally[api.ErrForm] < 1000 {
		t.Error("too few of a kind:", tally)
	}
}

// turn turns a program into another one, by one of many ways.
func turn(r *rand.Rand, p *api.Prog) {
	f := &p.Funcs[r.Intn(len(p.Funcs))]
	if len(f.Blocks) == 0 {
		return
	}
	b := &f.Blocks[r.Intn(len(f.Blocks))]
	switch r.Intn(12) {
	case 0, 1, 2, 3:
		l := whole(p)
		n := l[r.Intn(len(l))]
		*n = []int{*n + 1, *n - 1, r.Intn(12) - 2, r.Intn(60) - 2}[r.Intn(4)]
	case 4:
		if l := longs(p); len(l) > 0 {
			*l[r.Intn(len(l))] = int64(r.Intn(20) - 2)
		}
	case 5:
		l := ints(p)
		list := l[r.Intn(len(l))]
		*list = slices.Insert(slices.Clone(*list), r.Intn(len(*list)+1), r.Intn(10)-1)
	case 6:
		l := ints(p)
		if list := l[r.Intn(len(l))]; len(*list) > 0 {
			at := r.Intn(len(*list))
			*list = slices.Delete(slices.Clone(*list), at, at+1)
		}
	case 7:
		if len(b.Ops) > 1 {
			i, j := r.Intn(len(b.Ops)), r.Intn(len(b.Ops))
			b.Ops[i], b.Ops[j] = b.Ops[j], b.Ops[i]
		}
	case 8:
		i, j := r.Intn(len(f.Blocks)), r.Intn(len(f.Blocks))
		f.Blocks[i].End, f.Blocks[j].End = f.Blocks[j].End, f.Blocks[i].End
	case 9:
		if len(b.Ops) > 0 {
			b.Ops = b.Ops[:len(b.Ops)-1]
		}
	case 10:
		b.End.To, b.End.Else = b.End.Else, b.End.To
		b.End.L, b.End.M = b.End.M, b.End.L
	case 11:
		f.Ret = r.Intn(8) - 1
	}
}

// P9.2: of drawn programs, turned once or twice into others.
func TestCheckOfDrawn(t *testing.T) {
	r := rand.New(rand.NewSource(92))
	tally := map[api.Errno]int{}
	alone := map[string]int{}
	for _, p := range drawnProgs(922, 250) {
		for range 30 {
			q := clone(p)
			for range 1 + r.Intn(2) {
				turn(r, q)
			}
			before := clone(q)
			err, x := held(t, q)
			tally[err]++
			if len(x) == 1 {
				for rule := range x {
					alone[rule]++
				}
			}
			if !exact(q, before) {
				t.Fatal("what was handed in is changed")
			}
		}
	}
	if tally[api.OK] < 1000 || tally[api.ErrForm] < 1000 || len(alone) < 15 {
		t.Error("too few of a kind:", tally, alone)
	}
}

// drawnFunc is a function that need not be well made: blocks in any order, ways to blocks that are not there, steps of any values.
func drawnFunc(r *rand.Rand) api.Func {
	f := api.Func{Ret: r.Intn(9) - 2, Blocks: make([]api.Block, r.Intn(8))}
	values := 1 + r.Intn(20)
	value := func() int { return r.Intn(values+3) - 1 }
	for n := range f.Blocks {
		b := &f.Blocks[n]
		for range r.Intn(3) {
			b.Params = append(b.Params, []int{0, 0, 0, 1, 2, 5, 6, 8, -1, 99}[r.Intn(10)])
		}
		for range r.Intn(5) {
			b.Ops = append(b.Ops, []api.Op{num(1), num(2), add(value(), value()), add(value(), value()), add(value(), value()), less(value(), value()),
				str("x"), long(value()), tell(value()), bit(2), call(5, value()), {K: api.OpFace, A: value()}, {K: 30}}[r.Intn(13)])
		}
		block := func() int { return r.Intn(len(f.Blocks)+2) - 1 }
		b.End = api.End{K: []int{0, 0, 1, 1, 1, 1, 2, 3, 4}[r.Intn(9)], A: value(), To: block(), Else: block(), L: to(value()), M: to(value())}
	}
	return f
}

// P9.1: Types and Sees of drawn functions, of all places and values, and just beyond.
func TestTypesAndSeesOfDrawn(t *testing.T) {
	r := rand.New(rand.NewSource(91))
	p := world()
	var typed, seen, seenAbove int
	for range 4000 {
		f := drawnFunc(r)
		before := cloneFunc(f)
		got, want := well.Types(p, f), types(p, f)
		if !slices.Equal(got, want) {
			t.Fatalf("Types: %v, not %v\n%s", got, want, show.Func(f))
		}
		for _, is := range got {
			typed += min(1, is+1)
		}
		s := sightOf(f)
		for block := -1; block <= len(f.Blocks); block++ {
			ops := 0
			if inside(block, len(f.Blocks)) {
				ops = len(f.Blocks[block].Ops)
			}
			for at := -1; at <= ops+1; at++ {
				for value := -1; value <= len(s.homes); value++ {
					got, want := well.Sees(f, block, at, value), s.sees(block, at, value)
					if got != want {
						t.Fatalf("Sees %d, %d, %d: %v\n%s", block, at, value, got, show.Func(f))
					}
					if got {
						seen++
					}
					if got && s.homes[value].block != block {
						seenAbove++
					}
				}
			}
		}
		if !exactFunc(f, before) {
			t.Fatal("what was handed in is changed")
		}
	}
	if typed < 1000 || seen < 10000 || seenAbove < 1000 {
		t.Error("too little is seen:", typed, seen, seenAbove)
	}
}

// P9.4: what a block that is over another one sees at its end, the other one sees at all of its steps, and at its end.
func TestSeesGoesUp(t *testing.T) {
	r := rand.New(rand.NewSource(94))
	pairs := 0
	of := func(f api.Func) {
		over, values := overs(f), len(homes(f))
		for a, b := range f.Blocks {
			for below := range f.Blocks {
				if a == below || !over[a][below] {
					continue
				}
				for value := range values {
					if !well.Sees(f, a, len(b.Ops), value) {
						continue
					}
					pairs++
					for at := range len(f.Blocks[below].Ops) + 1 {
						if !well.Sees(f, below, at, value) {
							t.Fatalf("%d sees v%d, but %d does not, at %d\n%s", a, value, below, at, show.Func(f))
						}
					}
				}
			}
		}
	}
	for range 2000 {
		of(drawnFunc(r))
	}
	for _, p := range drawnProgs(944, 100) {
		for _, f := range p.Funcs {
			of(f)
		}
	}
	if pairs < 1000 {
		t.Error("too few blocks are over others:", pairs)
	}
}

// P9.2: the tables by hand break each rule alone (of itself no step can be: what is not seen there breaks two).
func TestTablesBreakOneRule(t *testing.T) {
	met := map[string]int{}
	for _, c := range slices.Concat(headless, bodiless) {
		err, x := held(t, c.turned())
		if err != api.ErrForm {
			t.Error(c.name, err)
		}
		if len(x) == 1 {
			for rule := range x {
				met[rule]++
			}
		}
	}
	for _, rule := range rules {
		if met[rule] == 0 {
			t.Error("not broken alone:", rule)
		}
	}
}

// What is handed in stays as it is, spare room too.
func TestSpareRoomStays(t *testing.T) {
	roomy := func() *api.Prog {
		p := world()
		for n, list := range ints(p) {
			room := append(slices.Clone(*list), 71+n, 72, 73, 74)
			*list = room[:len(*list)]
		}
		return p
	}
	p, q := roomy(), roomy()
	if err := well.Check(p); err != api.OK {
		t.Fatal(err)
	}
	for _, f := range p.Funcs {
		well.Types(p, f)
		for block, b := range f.Blocks {
			well.Sees(f, block, len(b.Ops), 0)
		}
	}
	others := ints(q)
	for n, list := range ints(p) {
		if want := (*others[n]); !slices.Equal((*list)[:len(want)+4], want[:len(want)+4]) {
			t.Error("a list is changed:", n)
		}
	}
}
