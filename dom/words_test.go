package dom_test

import (
	"slices"
	"strings"
	"testing"

	"hallmark/api"
	"hallmark/cfg"
	"hallmark/dom"
	"hallmark/text"
)

// told is a function as its ways alone.
func told(f api.Func) string {
	var l strings.Builder
	for at, b := range f.Blocks {
		l.WriteString(text.Digits(int64(at)) + ":")
		for _, x := range cfg.Targets(b.End) {
			l.WriteString(" " + text.Digits(int64(x.To)))
		}
		l.WriteString("; ")
	}
	return l.String()
}

// inside tells whether a block is there.
func inside(f api.Func, block int) bool {
	return block >= 0 && block < len(f.Blocks)
}

// metFrom tells of each block whether it is met from a block on, without passing the one that is left out.
func metFrom(f api.Func, start, out int) []bool {
	met := make([]bool, len(f.Blocks))
	var walk func(block int)
	walk = func(block int) {
		if !inside(f, block) || block == out || met[block] {
			return
		}
		met[block] = true
		for _, n := range cfg.Next(f.Blocks[block]) {
			walk(n)
		}
	}
	walk(start)
	return met
}

// overs tell of each two blocks, in the document's words, whether the one is over the other: both are met, and the other one is not met once the one is left out.
func overs(f api.Func) [][]bool {
	met := metFrom(f, 0, -1)
	over := make([][]bool, len(f.Blocks))
	for a := range over {
		over[a] = make([]bool, len(f.Blocks))
		left := metFrom(f, 0, a)
		for b := range left {
			over[a][b] = met[a] && met[b] && !left[b]
		}
	}
	return over
}

// edges are Edge in the document's words.
func edges(f api.Func, over [][]bool) [][]int {
	edge := make([][]int, len(f.Blocks))
	for a := range edge {
		for b := range edge {
			behind := func(from int) bool { return over[a][from] && slices.Contains(cfg.Next(f.Blocks[from]), b) }
			if over[b][b] && (a == b || !over[a][b]) && slices.ContainsFunc(numbers(f), behind) {
				edge[a] = append(edge[a], b)
			}
		}
	}
	return edge
}

// loops are Loops in the document's words.
func loops(f api.Func, over [][]bool) []api.Loop {
	var l []api.Loop
	for head := range over {
		in := make([]bool, len(over))
		for from, b := range f.Blocks {
			if !over[head][from] || !slices.Contains(cfg.Next(b), head) {
				continue
			}
			in[head] = true
			for block := range over {
				in[block] = in[block] || over[block][block] && metFrom(f, block, head)[from]
			}
		}
		loop := api.Loop{Head: head}
		for block := range in {
			if in[block] {
				loop.Blocks = append(loop.Blocks, block)
			}
		}
		if len(loop.Blocks) > 0 {
			l = append(l, loop)
		}
	}
	return l
}

// tame is Tame in the document's words.
func tame(f api.Func, over [][]bool) bool {
	order := cfg.Order(f)
	for at, block := range order {
		for _, n := range cfg.Next(f.Blocks[block]) {
			if place := slices.Index(order, n); place >= 0 && place <= at && !over[n][block] {
				return false
			}
		}
	}
	return true
}

// folds is Tame by another rule: ways of blocks to themselves are left out, and a block that just one other goes to becomes one with that, again and again; of a tame function, and of no other, nothing but block 0 is left.
func folds(f api.Func) bool {
	met := metFrom(f, 0, -1)
	goes := make([]map[int]bool, len(f.Blocks))
	left := map[int]bool{}
	for block, b := range f.Blocks {
		goes[block] = map[int]bool{}
		for _, n := range cfg.Next(b) {
			if met[block] && inside(f, n) {
				goes[block][n] = true
			}
		}
		if met[block] {
			left[block] = true
		}
	}
	for folded := true; folded; {
		folded = false
		for _, block := range numbers(f) {
			delete(goes[block], block)
			var from []int
			for _, n := range numbers(f) {
				if left[n] && goes[n][block] {
					from = append(from, n)
				}
			}
			if block == 0 || !left[block] || len(from) != 1 {
				continue
			}
			delete(left, block)
			delete(goes[from[0]], block)
			for n := range goes[block] {
				goes[from[0]][n] = true
			}
			folded = true
		}
	}
	return len(left) <= 1
}

// numbers are the numbers of a function's blocks.
func numbers(f api.Func) []int {
	l := make([]int, len(f.Blocks))
	for at := range l {
		l[at] = at
	}
	return l
}

// agree is P8.1 to P8.3 of one function, held against the document's words; it answers what Over is.
func agree(t *testing.T, f api.Func) [][]bool {
	t.Helper()
	over := overs(f)
	for a := range over {
		for b := range over {
			if got := dom.Over(f, a, b); got != over[a][b] {
				t.Fatalf("Over %d, %d of %s: %v, not %v", a, b, told(f), got, over[a][b])
			}
		}
	}
	if got, want := dom.Edge(f), edges(f, over); !slices.EqualFunc(got, want, slices.Equal) {
		t.Fatalf("Edge of %s: %v, not %v", told(f), got, want)
	}
	if got, want := dom.Loops(f), loops(f, over); !alike(got, want) {
		t.Fatalf("Loops of %s: %v, not %v", told(f), got, want)
	}
	if got, want := dom.Tame(f), tame(f, over); got != want || got != folds(f) {
		t.Fatalf("Tame of %s: %v, not %v, %v", told(f), got, want, folds(f))
	}
	nextOver(t, f, over)
	leads(t, f, over)
	heads(t, f, over)
	return over
}

// nextOver is P8.1, of Above: not the block itself, over it, and all others that are so are over that.
func nextOver(t *testing.T, f api.Func, over [][]bool) {
	t.Helper()
	above := dom.Above(f)
	if len(above) != len(f.Blocks) {
		t.Fatalf("Above of %s: %v", told(f), above)
	}
	for block, next := range above {
		if block == 0 || !over[block][block] {
			if next != -1 {
				t.Fatalf("Above of %s: %v, none is over %d", told(f), above, block)
			}
			continue
		}
		if !inside(f, next) || next == block || !over[next][block] {
			t.Fatalf("Above of %s: %v, of %d", told(f), above, block)
		}
		for other := range over {
			if other != block && over[other][block] && !over[other][next] {
				t.Fatalf("Above of %s: %v, but %d is nearer to %d", told(f), above, other, block)
			}
		}
	}
}

// leads is P8.4: Above leads to block 0, and just those that are over a block are passed on the way.
func leads(t *testing.T, f api.Func, over [][]bool) {
	t.Helper()
	above := dom.Above(f)
	for block := range above {
		passed := make([]bool, len(above))
		last := -1
		for at, steps := block, 0; over[block][block] && at >= 0 && steps <= len(above); steps++ {
			passed[at] = true
			at, last = above[at], at
		}
		if over[block][block] && last != 0 {
			t.Fatalf("Above of %s: %v, but not from %d to block 0", told(f), above, block)
		}
		for a := range passed {
			if passed[a] != over[a][block] {
				t.Fatalf("Above of %s: %v, but from %d on %d is passed: %v", told(f), above, block, a, passed[a])
			}
		}
	}
}

// heads is P8.5: a loop's head is over all of its blocks; heads rise, and so do blocks.
func heads(t *testing.T, f api.Func, over [][]bool) {
	t.Helper()
	ahead := -1
	for _, loop := range dom.Loops(f) {
		if loop.Head <= ahead || !slices.Contains(loop.Blocks, loop.Head) {
			t.Fatalf("Loops of %s: head %d behind %d", told(f), loop.Head, ahead)
		}
		ahead = loop.Head
		for at, block := range loop.Blocks {
			if !over[loop.Head][block] || at > 0 && block <= loop.Blocks[at-1] {
				t.Fatalf("Loops of %s: head %d, blocks %v", told(f), loop.Head, loop.Blocks)
			}
		}
	}
}
