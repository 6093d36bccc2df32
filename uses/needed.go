package uses

import (
	"hallmark/api"
	"hallmark/cfg"
	"hallmark/code"
)

// Needed are, for each block, the values that must have come ahead of it.
func Needed(f api.Func) [][]int {
	needed, _ := spread(f)
	return needed
}

// Left are, for each block, the values that are needed behind it.
func Left(f api.Func) [][]int {
	_, left := spread(f)
	return left
}

// Most is how many values the block needs that needs most of them.
func Most(f api.Func) int {
	most := 0
	for _, values := range Needed(f) {
		most = max(most, len(values))
	}
	return most
}

// spread carries each value from the blocks that are of it against the ways of f, up to the block that makes it.
func spread(f api.Func) (needed, left [][]int) {
	needed, needs := sets(len(f.Blocks))
	left, leaves := sets(len(f.Blocks))
	first, ahead := firsts(f), cfg.Ahead(f)
	for value, blocks := range users(f) {
		// A list, not a call in a call: ways may be longer than calls can lie in one another.
		var reached []int
		reach := func(block int) {
			made := first[block] <= value && value < first[block+1]
			if !made && needs(block, value) {
				reached = append(reached, block)
			}
		}
		for _, block := range blocks {
			reach(block)
		}
		for len(reached) > 0 {
			last := len(reached) - 1
			block := reached[last]
			reached = reached[:last]
			for _, from := range ahead[block] {
				leaves(from, value)
				reach(from)
			}
		}
	}
	return needed, left
}

// users are, for each value of f, the blocks that are of it.
func users(f api.Func) [][]int {
	blocks, grow := sets(code.Values(f))
	for site, value := range uses(f) {
		grow(value, site.Block)
	}
	return blocks
}

// sets are that many sets, and what lays n into the one at a place, and tells whether it is new there. Numbers come rising: a set that has n ends with it.
func sets(many int) (all [][]int, grow func(at, n int) bool) {
	all = make([][]int, many)
	return all, func(at, n int) bool {
		set := all[at]
		if len(set) > 0 && set[len(set)-1] == n {
			return false
		}
		all[at] = append(set, n)
		return true
	}
}

// firsts are the numbers of the blocks' first values, and how many values there are behind them (code.First counts anew for each block).
func firsts(f api.Func) []int {
	first := make([]int, 1, len(f.Blocks)+1)
	for at, b := range f.Blocks {
		first = append(first, first[at]+len(b.Params)+len(b.Ops))
	}
	return first
}
