package flow

import "testing"

// Iterators that are broken off yield nothing more.
func TestBrokenOff(t *testing.T) {
	next := [][]int{{1, 2}, {3}, {3}, nil}
	var seeds [][2]int
	for number := range 64 * words * 4 {
		seeds = append(seeds, [2]int{number % 4, number})
	}
	for many := 1; many <= 4; many++ {
		nodes, bits, parts := 0, 0, 0
		for range met(next, make([]bool, 4), []int{0}) {
			if nodes++; nodes == many {
				break
			}
		}
		for range (share{1 | 1<<63, 2, words - 1: 1}).places() {
			if bits++; bits == many {
				break
			}
		}
		for range rounds(next, []int{0, 1, 2, 3}, []int{0, 1, 2, 3}, seeds) {
			if parts++; parts == many {
				break
			}
		}
		if parts != many || nodes != many || bits != many {
			t.Error(many, nodes, bits, parts)
		}
	}
}
