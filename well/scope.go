package well

import (
	"sort"

	"hallmark/api"
	"hallmark/dom"
)

// scope is where a function's values are, and what is over what: worked out once, it is asked for each value that is used.
type scope struct {
	f     api.Func
	first []int // the number of each block's first value; how many values there are stands behind the last one
	above []int // the block next over a block; -1, if none is
}

// scoped is the scope of f.
func scoped(f api.Func) scope {
	return scope{f: f, first: firsts(f), above: dom.Above(f)}
}

// firsts are the numbers of the blocks' first values, and how many values there are (code.First counts anew for each block).
func firsts(f api.Func) []int {
	first := make([]int, 1, len(f.Blocks)+1)
	for at, b := range f.Blocks {
		first = append(first, first[at]+len(b.Params)+len(b.Ops))
	}
	return first
}

// sees tells whether the step at of a block, or its end, sees a value.
func (s scope) sees(block, at, value int) bool {
	if !s.there(block, at) || value < 0 || value >= s.first[len(s.f.Blocks)] {
		return false
	}
	home := s.home(value)
	if home == block {
		return value < s.first[block]+len(s.f.Blocks[block].Params)+at
	}
	return s.over(home, block)
}

// there tells whether there is such a block, and it has such a step, or its end is there.
func (s scope) there(block, at int) bool {
	return 0 <= block && block < len(s.f.Blocks) && 0 <= at && at <= len(s.f.Blocks[block].Ops)
}

// home is the block of a value that is there: the last one whose first value is not behind it.
func (s scope) home(value int) int {
	return sort.Search(len(s.first), func(block int) bool { return s.first[block] > value }) - 1
}

// over tells whether a block is over another one. From one that is not met no way leads up.
func (s scope) over(a, b int) bool {
	for b != a && b >= 0 {
		b = s.above[b]
	}
	return b == a
}
