package cfg

import (
	"iter"
	"slices"

	"hallmark/api"
)

// left are the blocks that are met from block 0 on, as a walk leaves them.
func left(f api.Func) iter.Seq[int] {
	return func(yield func(int) bool) {
		if !there(f, 0) {
			return
		}
		met := make([]bool, len(f.Blocks))
		met[0] = true
		// The way from block 0 on is a list: blocks may lead on deeper than calls can lie in one another.
		way := []int{0}
	walk:
		for len(way) > 0 {
			last := way[len(way)-1]
			// From its first target on each time: those that were walked are met by now.
			for t := range targets(f.Blocks[last].End) {
				if there(f, t.To) && !met[t.To] {
					met[t.To] = true
					way = append(way, t.To)
					continue walk
				}
			}
			if !yield(last) {
				return
			}
			way = way[:len(way)-1]
		}
	}
}

// Order are the blocks that are met, the one that is left last first.
func Order(f api.Func) []int {
	var order []int
	for block := range left(f) {
		order = append(order, block)
	}
	slices.Reverse(order)
	return order
}

// Reached tells of each block whether it is met.
func Reached(f api.Func) []bool {
	reached := make([]bool, len(f.Blocks))
	for block := range left(f) {
		reached[block] = true
	}
	return reached
}

// Deep is, for each block, how many steps it is away from block 0.
func Deep(f api.Func) []int {
	deep := slices.Repeat([]int{-1}, len(f.Blocks))
	if !there(f, 0) {
		return deep
	}
	deep[0] = 0
	// Blocks stand here as they are met: what is fewer steps away comes first.
	for met := []int{0}; len(met) > 0; met = met[1:] {
		for t := range targets(f.Blocks[met[0]].End) {
			if there(f, t.To) && deep[t.To] < 0 {
				deep[t.To] = deep[met[0]] + 1
				met = append(met, t.To)
			}
		}
	}
	return deep
}
