package flow

import (
	"cmp"
	"iter"
	"math/bits"
	"slices"

	"hallmark/api"
)

// words is how many words a share has: with more of them the edges are gone over less often.
const words = 8

// share is which of some numbers a group of nodes has: a bit for each number.
type share [words]uint64

// Sets are, for each node, the numbers that it has as seeds, and those that any node has from which it is met: rising, each once.
func Sets(n int, edges [][2]int, seeds [][2]int) ([][]int, api.Errno) {
	holders := make([]int, len(seeds))
	for at, seed := range seeds {
		holders[at] = seed[0]
	}
	if wrong := fault(n, edges, holders); wrong != api.OK {
		return nil, wrong
	}
	next := ways(n, edges, 0)
	order, group := groups(next, ways(n, edges, 1))
	sorted := slices.SortedFunc(slices.Values(seeds), func(a, b [2]int) int { return cmp.Compare(a[1], b[1]) })
	// Twice, to know how long the lists become: to let them grow costs more.
	sets, sizes := make([][]int, n), make([]int, n)
	for _, shares := range rounds(next, order, group, sorted) {
		for node := range sizes {
			sizes[node] += shares[group[node]].many()
		}
	}
	for node, size := range sizes {
		sets[node] = make([]int, 0, size)
	}
	for numbers, shares := range rounds(next, order, group, sorted) {
		for node := range sets {
			for at := range shares[group[node]].places() {
				sets[node] = append(sets[node], numbers[at])
			}
		}
	}
	return sets, api.OK
}

// rounds are the numbers of seeds that stand in the order of their numbers, each once, so many at a time, and which of these each group has in the end.
func rounds(next [][]int, order, group []int, seeds [][2]int) iter.Seq2[[]int, []share] {
	return func(yield func([]int, []share) bool) {
		shares := make([]share, len(next))
		rest := seeds
		for numbers := range slices.Chunk(numbered(seeds), 64*words) {
			clear(shares)
			for at, number := range numbers {
				for ; len(rest) > 0 && rest[0][1] == number; rest = rest[1:] {
					shares[group[rest[0][0]]][at/64] |= 1 << (at % 64)
				}
			}
			pour(shares, next, order, group)
			if !yield(numbers, shares) {
				return
			}
		}
	}
}

// numbered are the numbers of seeds that stand in the order of their numbers: each once.
func numbered(seeds [][2]int) []int {
	var numbers []int
	for at, seed := range seeds {
		if at == 0 || seeds[at-1][1] != seed[1] {
			numbers = append(numbers, seed[1])
		}
	}
	return numbers
}

// many is how many bits are set.
func (s share) many() int {
	many := 0
	for _, word := range s {
		many += bits.OnesCount64(word)
	}
	return many
}

// places are the places of the bits that are set, rising.
func (s share) places() iter.Seq[int] {
	return func(yield func(int) bool) {
		for word, rest := range s {
			for ; rest != 0; rest &= rest - 1 {
				if !yield(64*word + bits.TrailingZeros64(rest)) {
					return
				}
			}
		}
	}
}

// pour gives what groups have on to those that are met from them. In that order nothing comes to a group any more when its first node's turn is there.
func pour(shares []share, next [][]int, order, group []int) {
	for _, node := range order {
		has := shares[group[node]]
		if has == (share{}) {
			continue
		}
		for _, to := range next[node] {
			gets := &shares[group[to]]
			for word := range has {
				gets[word] |= has[word]
			}
		}
	}
}

// groups puts together the nodes that are met from one another: all nodes in an order in which edges lead on, or to one of the same group, and for each node the first one of its group there.
func groups(next, ahead [][]int) (order, group []int) {
	group = make([]int, len(next))
	marked := make([]bool, len(next))
	// What a walk along edges leaves last is met from all that is met against them, if that is still there.
	for _, start := range slices.Backward(left(next)) {
		for step := range met(ahead, marked, []int{start}) {
			group[step[0]] = start
			order = append(order, step[0])
		}
	}
	return order, group
}

// left are all nodes as walks along ways leave them, each behind those that are met from it first.
func left(ways [][]int) []int {
	var order, path []int
	marked := make([]bool, len(ways))
	rest := slices.Clone(ways)
	for start := range ways {
		// The path is a list, not a call in a call: it may be longer than calls can lie in one another.
		enter := func(node int) {
			if !marked[node] {
				marked[node] = true
				path = append(path, node)
			}
		}
		for enter(start); len(path) > 0; {
			last := len(path) - 1
			node := path[last]
			if len(rest[node]) == 0 {
				order, path = append(order, node), path[:last]
				continue
			}
			to := rest[node][0]
			rest[node] = rest[node][1:]
			enter(to)
		}
	}
	return order
}
