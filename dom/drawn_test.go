package dom_test

import (
	"math/rand"
	"slices"
	"testing"

	"hallmark/api"
	"hallmark/cfg"
	"hallmark/dom"
)

// each calls seen with each function of that many blocks whose ends are rets, or branches to blocks from least to most.
func each(size, least, most int, seen func(f api.Func)) {
	ends := []api.End{{K: api.EndRet}}
	for a := least; a <= most; a++ {
		for b := least; b <= most; b++ {
			ends = append(ends, api.End{K: api.EndBranch, To: a, Else: b})
		}
	}
	f := api.Func{Blocks: make([]api.Block, size)}
	var lay func(at int)
	lay = func(at int) {
		if at == size {
			seen(f)
			return
		}
		for _, e := range ends {
			f.Blocks[at].End = e
			lay(at + 1)
		}
	}
	lay(0)
}

// P8.1 to P8.5, of all functions of up to three blocks, with targets that are there, and just below and beyond.
func TestAllSmall(t *testing.T) {
	many := 0
	for size := range 4 {
		each(size, -1, size, func(f api.Func) {
			everyWay(t, f, agree(t, f))
			many++
		})
	}
	if many != 1+10+17*17+26*26*26 {
		t.Error(many)
	}
}

// P8.1 to P8.5, of all functions of four blocks that are all met, and lead to no others.
func TestAllOfFour(t *testing.T) {
	each(4, 0, 3, func(f api.Func) {
		if !slices.Contains(metFrom(f, 0, -1), false) {
			agree(t, f)
		}
	})
}

// everyWay is P8.1 to the letter: of each two blocks whether the one stands on each way to the other (a way that passes a block twice passes no others than one that does not).
func everyWay(t *testing.T, f api.Func, over [][]bool) {
	t.Helper()
	size := len(f.Blocks)
	on := make([]int, size)
	ways := make([]int, size)
	passes := make([][]int, size)
	for b := range passes {
		passes[b] = make([]int, size)
	}
	var walk func(block int)
	walk = func(block int) {
		if !inside(f, block) || on[block] > 0 {
			return
		}
		on[block]++
		ways[block]++
		for a := range on {
			passes[block][a] += on[a]
		}
		for _, n := range cfg.Next(f.Blocks[block]) {
			walk(n)
		}
		on[block]--
	}
	walk(0)
	for a := range size {
		for b := range size {
			if want := ways[b] > 0 && passes[b][a] == ways[b]; over[a][b] != want {
				t.Fatalf("Over %d, %d of %s: %v", a, b, told(f), over[a][b])
			}
		}
	}
}

// draws are ways to draw where a block goes: anywhere; not far; most often just on, now and then back; into a wood of few joins.
func draws(r *rand.Rand, size int) []func(at int) int {
	return []func(at int) int{
		func(at int) int { return r.Intn(size) },
		func(at int) int { return at - 2 + r.Intn(6) },
		func(at int) int {
			if r.Intn(4) == 0 {
				return r.Intn(at + 1)
			}
			return at + 1
		},
		func(at int) int {
			if r.Intn(12) == 0 {
				return r.Intn(size)
			}
			return 2*at + 1 + r.Intn(2)
		},
	}
}

// drawn is a function made up, of that many blocks, each of which goes where goes tells. Numbers are dealt anew, but for block 0: the order is not theirs.
func drawn(r *rand.Rand, size int, goes func(at int) int) api.Func {
	number := append(to(0), r.Perm(size-1)...)
	for at := 1; at < size; at++ {
		number[at]++
	}
	target := func(at int) int {
		if n := goes(at); n >= 0 && n < size {
			return number[n]
		}
		// What leads out leads to a block all the same, most often.
		return r.Intn(size+2) - 1
	}
	kinds := slices.Concat(slices.Repeat(to(api.EndBranch), 16), slices.Repeat(to(api.EndJump), 6), to(api.EndRet))
	f := api.Func{Blocks: make([]api.Block, size)}
	for at := range size {
		f.Blocks[number[at]].End = api.End{K: kinds[r.Intn(len(kinds))], A: at, To: target(at), Else: target(at)}
	}
	return f
}

// deepest is how many blocks are over the one that most are over.
func deepest(over [][]bool) int {
	most := 0
	for b := range over {
		n := 0
		for a := range over {
			if over[a][b] {
				n++
			}
		}
		most = max(most, n)
	}
	return most
}

// inOneAnother tells whether a loop has another one's head.
func inOneAnother(loops []api.Loop) bool {
	return slices.ContainsFunc(loops, func(a api.Loop) bool {
		return slices.ContainsFunc(loops, func(b api.Loop) bool { return a.Head != b.Head && slices.Contains(a.Blocks, b.Head) })
	})
}

// P8.1 to P8.5, of functions made up, always the same ones.
func TestDrawn(t *testing.T) {
	r := rand.New(rand.NewSource(8))
	deep, nested, wild, unmet := 0, 0, 0, 0
	for at := range 2400 {
		size := 2 + r.Intn(3+at*(api.MaxBlocks-4)/2400)
		draw := draws(r, size)
		f := drawn(r, size, draw[at%len(draw)])
		over := agree(t, f)
		if deepest(over) >= 8 {
			deep++
		}
		if inOneAnother(dom.Loops(f)) {
			nested++
		}
		if !dom.Tame(f) {
			wild++
		}
		if slices.Contains(cfg.Reached(f), false) {
			unmet++
		}
	}
	if min(deep, nested, wild, unmet) < 200 || wild > 2000 {
		t.Error("too few of a kind", deep, nested, wild, unmet)
	}
}
