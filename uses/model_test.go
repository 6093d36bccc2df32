package uses_test

import (
	"hallmark/api"
	"hallmark/kind"
)

// The model: the chapter's words, one by one. Whether a block needs a value is told by walking: from it on, past blocks that do not make the value, to one that is of it.

// first is the number of a block's first value, or, behind the last block, how many values there are.
func first(f api.Func, block int) int {
	n := 0
	for at := range block {
		n += len(f.Blocks[at].Params)
		for range f.Blocks[at].Ops {
			n++
		}
	}
	return n
}

// makes tells whether a value is a parameter, or a step, of a block.
func makes(f api.Func, block, value int) bool {
	return first(f, block) <= value && value < first(f, block+1)
}

// stands is how often a value stands in a step.
func stands(o api.Op, value int) int {
	n := 0
	for _, letter := range kind.Fields(o.K) {
		for _, v := range map[rune][]int{'A': to(o.A), 'B': to(o.B), 'C': to(o.C), 'L': o.L}[letter] {
			if v == value {
				n++
			}
		}
	}
	return n
}

// standsInEnd is how often a value stands in an end of a function that tells anything, or does not.
func standsInEnd(e api.End, tells bool, value int) int {
	n := 0
	count := func(l []int) {
		for _, v := range l {
			if v == value {
				n++
			}
		}
	}
	switch e.K {
	case api.EndJump:
		count(e.L)
	case api.EndBranch:
		count(to(e.A))
		count(e.L)
		count(e.M)
	case api.EndRet:
		if tells {
			count(to(e.A))
		}
	case api.EndStop:
		count(to(e.A))
	}
	return n
}

// standing is where a value stands, and how often there.
func standing(f api.Func, value int) (sites []api.Site, often int) {
	if value < 0 || value >= first(f, len(f.Blocks)) {
		return nil, 0
	}
	note := func(block, at, n int) {
		if often += n; n > 0 {
			sites = append(sites, api.Site{Fun: 0, Block: block, At: at})
		}
	}
	for block, b := range f.Blocks {
		for at, o := range b.Ops {
			note(block, at, stands(o, value))
		}
		note(block, len(b.Ops), standsInEnd(b.End, f.Ret != none, value))
	}
	return sites, often
}

// goes are the blocks that are there to which a block goes.
func goes(f api.Func, block int) []int {
	var l []int
	switch e := f.Blocks[block].End; e.K {
	case api.EndJump:
		l = to(e.To)
	case api.EndBranch:
		l = to(e.To, e.Else)
	}
	var there []int
	for _, n := range l {
		if n >= 0 && n < len(f.Blocks) {
			there = append(there, n)
		}
	}
	return there
}

// needs tells whether a block needs a value ahead of it; of tells which blocks are of the value.
func needs(f api.Func, of map[int]bool, block, value int) bool {
	passed := map[int]bool{}
	var walk func(at int) bool
	walk = func(at int) bool {
		if passed[at] || makes(f, at, value) {
			return false
		}
		passed[at] = true
		if of[at] {
			return true
		}
		for _, n := range goes(f, at) {
			if walk(n) {
				return true
			}
		}
		return false
	}
	return walk(block)
}

// modelled is all that is told of a function.
func modelled(f api.Func) answers {
	size := first(f, len(f.Blocks))
	a := answers{needed: make([][]int, len(f.Blocks)), left: make([][]int, len(f.Blocks))}
	for value := -1; value <= size; value++ {
		sites, often := standing(f, value)
		a.of = append(a.of, sites)
		if value < 0 || value >= size {
			continue
		}
		a.counts = append(a.counts, often)
		of := map[int]bool{}
		for _, site := range sites {
			of[site.Block] = true
		}
		ahead := make([]bool, len(f.Blocks))
		for block := range f.Blocks {
			if ahead[block] = needs(f, of, block, value); ahead[block] {
				a.needed[block] = append(a.needed[block], value)
			}
		}
		for block := range f.Blocks {
			for _, n := range goes(f, block) {
				if ahead[n] {
					a.left[block] = append(a.left[block], value)
					break
				}
			}
		}
	}
	for _, l := range a.needed {
		a.most = max(a.most, len(l))
	}
	return a
}

// settled are Needed by another rule: blocks need what they are of and do not make, and what their next ones need and they do not make, again and again, until nothing changes.
func settled(f api.Func) [][]int {
	size := first(f, len(f.Blocks))
	need := make([][]bool, len(f.Blocks))
	for at := range need {
		need[at] = make([]bool, size)
	}
	for changed := true; changed; {
		changed = false
		for at, b := range f.Blocks {
			for value := range size {
				is := standsInEnd(b.End, f.Ret != none, value) > 0
				for _, o := range b.Ops {
					is = is || stands(o, value) > 0
				}
				for _, n := range goes(f, at) {
					is = is || need[n][value]
				}
				if is && !makes(f, at, value) && !need[at][value] {
					need[at][value], changed = true, true
				}
			}
		}
	}
	l := make([][]int, len(f.Blocks))
	for at := range need {
		for value, is := range need[at] {
			if is {
				l[at] = append(l[at], value)
			}
		}
	}
	return l
}
