package dom_test

import (
	"runtime/debug"
	"slices"
	"testing"

	"hallmark/api"
	"hallmark/dom"
)

// long is how many blocks the longest chains have: by far more than MaxBlocks.
const long = 1 << 18

// chains are functions of many blocks, with what is told of each block; loops that are left out are none.
var chains = []struct {
	name  string
	goes  func(at, size int) []int
	above func(at, size int) int
	edge  func(at, size int) []int
	loops func(size int) []api.Loop
}{
	{
		name:  "a chain",
		goes:  func(at, size int) []int { return to(at + 1) },
		above: func(at, size int) int { return at - 1 },
		edge:  func(at, size int) []int { return nil },
	},
	{
		name: "a chain that falls",
		goes: func(at, size int) []int { return to((at + size - 1) % size) },
		above: func(at, size int) int {
			if at == 0 {
				return -1
			}
			return (at + 1) % size
		},
		edge:  func(at, size int) []int { return to(0) },
		loops: func(size int) []api.Loop { return []api.Loop{{Head: 0, Blocks: rising(0, size)}} },
	},
	{
		name:  "a chain with ways back to block 0",
		goes:  func(at, size int) []int { return to(at+1, 0) },
		above: func(at, size int) int { return at - 1 },
		edge:  func(at, size int) []int { return to(0) },
		loops: func(size int) []api.Loop { return []api.Loop{{Head: 0, Blocks: rising(0, size)}} },
	},
	{
		name:  "a chain with ways back to block 1",
		goes:  func(at, size int) []int { return to(1, at+1) },
		above: func(at, size int) int { return at - 1 },
		edge:  func(at, size int) []int { return to(1)[:min(at, 1)] },
		loops: func(size int) []api.Loop { return []api.Loop{{Head: 1, Blocks: rising(1, size)}} },
	},
	{
		name:  "a chain with ways to themselves",
		goes:  func(at, size int) []int { return to(at+1, at) },
		above: func(at, size int) int { return at - 1 },
		edge:  func(at, size int) []int { return to(at) },
		loops: func(size int) []api.Loop {
			var l []api.Loop
			for at := range size {
				l = append(l, api.Loop{Head: at, Blocks: to(at)})
			}
			return l
		},
	},
	{
		name:  "a chain with short ways",
		goes:  func(at, size int) []int { return to(at+1, at+2) },
		above: func(at, size int) int { return min(at, 1) - 1 },
		edge: func(at, size int) []int {
			if at == 0 {
				return nil
			}
			return to(at+1, at+2)[:min(2, size-1-at)]
		},
	},
	{
		name: "a chain all of which can go to the last",
		goes: func(at, size int) []int { return to(at+1, size-1)[:2*min(1, size-1-at)] },
		above: func(at, size int) int {
			if at == size-1 {
				return 0
			}
			return at - 1
		},
		edge: func(at, size int) []int {
			if at == 0 || at == size-1 {
				return nil
			}
			return to(size - 1)
		},
	},
}

// rising are the numbers from least on, below size.
func rising(least, size int) []int {
	var l []int
	for at := least; at < size; at++ {
		l = append(l, at)
	}
	return l
}

// P8.1 to P8.3: long chains of blocks, with little room for calls that lie in one another.
func TestLongChains(t *testing.T) {
	defer debug.SetMaxStack(debug.SetMaxStack(1 << 20))
	for _, x := range chains {
		for _, size := range []int{3, api.MaxBlocks, api.MaxBlocks + 1, long} {
			ways := make([][]int, size)
			for at := range ways {
				ways[at] = x.goes(at, size)
			}
			f := goes(ways...)
			above, edge := dom.Above(f), dom.Edge(f)
			if len(above) != size || len(edge) != size {
				t.Fatal(x.name, size, len(above), len(edge))
			}
			for at := range size {
				if n, l := x.above(at, size), x.edge(at, size); above[at] != n || !slices.Equal(edge[at], l) {
					t.Fatal(x.name, size, at, above[at], n, edge[at], l)
				}
			}
			var want []api.Loop
			if x.loops != nil {
				want = x.loops(size)
			}
			if loops := dom.Loops(f); !alike(loops, want) || !dom.Tame(f) {
				t.Fatal("loops of", x.name, size, len(loops))
			}
			if !dom.Over(f, 0, size-1) || dom.Over(f, size-1, 0) || !dom.Over(f, size-1, size-1) || dom.Over(f, 0, size) {
				t.Fatal("over of", x.name, size)
			}
		}
	}
}

// P8.1, P8.3: a chain that leads up and down, entered at both its ends, so that what is over a block comes out late.
func TestEnteredAtBothEnds(t *testing.T) {
	for _, size := range []int{3, 4, 5, api.MaxBlocks, 1 << 10} {
		ways := [][]int{to(1, size-1)}
		for at := 1; at < size; at++ {
			ways = append(ways, to(min(at+1, size-1), max(at-1, 1)))
		}
		f := goes(ways...)
		if above := dom.Above(f); above[0] != -1 || slices.ContainsFunc(above[1:], func(n int) bool { return n != 0 }) {
			t.Error(size, above)
		}
		if dom.Tame(f) || dom.Over(f, 1, size-1) {
			t.Error("tame", size)
		}
	}
}
