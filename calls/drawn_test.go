package calls_test

import (
	"math/rand"
	"slices"
	"testing"

	"hallmark/api"
	"hallmark/well"
)

// P12.1 to P12.4, of all programs of up to three functions that call one another; of four, some of them.
func TestAllSmall(t *testing.T) {
	for size := 1; size <= 4; size++ {
		for bits := 0; bits < 1<<(size*size); bits += 1 + size/4*46 {
			l := make([][]int, size)
			for n := range size * size {
				if bits>>n&1 == 1 {
					l[n/size] = append(l[n/size], n%size)
				}
			}
			held(t, plain(l...))
		}
	}
}

// drawn is a well made program made up: its functions have one block, or four, or a ring of two.
func drawn(r *rand.Rand) *api.Prog {
	size, sigs, busy := 1+r.Intn(api.MaxFuncs), r.Intn(api.MaxSigs+1)*r.Intn(2), 2+r.Intn(3)
	methods := make([][]int, 1+r.Intn(api.MaxClasses))
	for n := range methods {
		for range sigs {
			own := -1 - r.Intn(3)
			if size > 1 && r.Intn(3) > 0 {
				own = 1 + r.Intn(size-1)
			}
			methods[n] = append(methods[n], own)
		}
	}
	p := net(methods, make([][]int, size)...)
	for n := range p.Funcs {
		f := &p.Funcs[n]
		seen := 0
		if n == 0 {
			f.Blocks[0].Ops[1].N, seen = int64(r.Intn(len(methods))), 2
		}
		f.Blocks[0].Ops = append(f.Blocks[0].Ops, bit(1))
		shape(r, f, n == 0)
		for range r.Intn(2 * busy) {
			b := &f.Blocks[r.Intn(len(f.Blocks))]
			b.Ops = append(b.Ops, step(r, p, n, seen))
		}
	}
	return p
}

// shape gives a function its blocks; what comes back, and what a branch asks, is of block 0.
func shape(r *rand.Rand, f *api.Func, first bool) {
	back, truth := ret(0), 1
	if first {
		truth = 3
	}
	switch r.Intn(3) {
	case 0:
		f.Blocks[0].End = branch(truth, 2, 1)
		f.Blocks = append(f.Blocks, block(nil, jump(3)), block(nil, jump(3)), block(nil, back))
	case 1:
		f.Blocks[0].End = jump(1)
		f.Blocks = append(f.Blocks, block(nil, branch(truth, 1, 2)), block(nil, back))
	}
}

// step is a step of a face, mostly one that runs a function; a function calls some near it, and some behind it, so that there are several rings.
func step(r *rand.Rand, p *api.Prog, own, seen int) api.Op {
	switch way := r.Intn(8); {
	case way == 0:
		return tellNothing(r)
	case way < 3:
		o := object(r.Intn(len(p.Classes)))
		o.Stack = r.Intn(2) == 0
		return o
	case way < 5 && len(p.Sigs) > 0:
		return ask(r.Intn(len(p.Sigs)), seen)
	}
	n := own - own%3 + r.Intn(3)
	if n >= len(p.Funcs) || r.Intn(3) == 0 {
		n = own + r.Intn(len(p.Funcs)-own)
	}
	if r.Intn(20) == 0 {
		n = r.Intn(len(p.Funcs))
	}
	if n == 0 {
		return call(0)
	}
	return call(n, seen)
}

// tellNothing is a step whose N could be a function's, but is not.
func tellNothing(r *rand.Rand) api.Op {
	return []api.Op{num(int64(r.Intn(4))), bit(1), {K: api.OpMake, N: int64(r.Intn(4))}, {K: api.OpTable}, {K: api.OpText, S: "x"}}[r.Intn(5)]
}

// P12.1 to P12.4, over drawn programs.
func TestDrawn(t *testing.T) {
	r := rand.New(rand.NewSource(12))
	tally := map[string]int{}
	for range 500 {
		p := drawn(r)
		ready(t, "drawn", p)
		note(tally, p, held(t, p))
	}
	for _, name := range []string{"ring", "rings", "itself", "waits", "not met", "not made", "nothing called", "many callees", "against"} {
		if tally[name] < 40 {
			t.Errorf("too few of a kind: %s: %d", name, tally[name])
		}
	}
}

// note counts of which kinds a program is.
func note(tally map[string]int, p *api.Prog, a answers) {
	members := map[int]int{}
	for _, g := range a.groups {
		members[g]++
	}
	delete(members, -1)
	many := 0
	for _, size := range members {
		if size > 1 {
			many++
		}
	}
	count := func(name string, holds bool) {
		if holds {
			tally[name]++
		}
	}
	count("ring", many == 1)
	count("rings", many > 1)
	count("itself", len(members) > many)
	count("against", !slices.IsSorted(a.upward))
	count("not made", len(a.makes) < len(p.Classes))
	// Of one group, but not all beside one another.
	waits := false
	for at := 2; at < len(a.upward); at++ {
		g := a.groups[a.upward[at]]
		waits = waits || g >= 0 && g != a.groups[a.upward[at-1]] && slices.ContainsFunc(a.upward[:at], func(n int) bool { return a.groups[n] == g })
	}
	count("waits", waits)
	for n, l := range a.callees {
		count("nothing called", len(l) == 0)
		count("many callees", len(l) > 4)
		count("not met", n > 0 && !met(modelCallees(p), 0)[n])
	}
}

// Of drawn programs of which one number is another one: what the model tells, or nothing.
func TestBroken(t *testing.T) {
	r := rand.New(rand.NewSource(21))
	wrong := 0
	for range 1000 {
		p := drawn(r)
		for range 1 + r.Intn(2) {
			spoil(r, p)
		}
		if well.Check(p) == api.OK {
			held(t, p)
			continue
		}
		wrong++
		nothing(t, "broken", p)
	}
	if wrong < 300 || wrong > 900 {
		t.Errorf("too few of a kind: %d", wrong)
	}
}

// spoil changes something of a program.
func spoil(r *rand.Rand, p *api.Prog) {
	f := &p.Funcs[r.Intn(len(p.Funcs))]
	b := &f.Blocks[r.Intn(len(f.Blocks))]
	number := r.Intn(20) - 3
	switch r.Intn(8) {
	case 0:
		f.Ret = number
	case 1:
		b.End.To = number
	case 2:
		b.End.A = number
	case 3:
		c := &p.Classes[r.Intn(len(p.Classes))]
		c.Methods = append(c.Methods[:len(c.Methods)/2:len(c.Methods)/2], number)
	case 4:
		p.Sigs = append(p.Sigs[:len(p.Sigs)/2:len(p.Sigs)/2], api.Sig{Ret: none})
	default:
		if len(b.Ops) == 0 {
			return
		}
		o := &b.Ops[r.Intn(len(b.Ops))]
		switch r.Intn(3) {
		case 0:
			o.K = number
		case 1:
			o.N = int64(number)
		default:
			o.A = number
		}
	}
}
