package flow_test

import (
	"slices"

	"hallmark/api"
)

// The model says the chapter's words as plainly as can be: what holds is gone over until nothing changes.

// wrong is what P14.1 names: of that many nodes, edges, and further numbers that must be nodes.
func wrong(n int, edges [][2]int, nodes []int) api.Errno {
	for _, e := range edges {
		nodes = append(slices.Clone(nodes), e[0], e[1])
	}
	if n < 0 || len(nodes) > 0 && (slices.Min(nodes) < 0 || slices.Max(nodes) >= n) {
		return api.ErrArg
	}
	if n > 16384 {
		return api.ErrLong
	}
	return api.OK
}

func turned(edges [][2]int) [][2]int {
	var all [][2]int
	for _, e := range edges {
		all = append(all, [2]int{e[1], e[0]})
	}
	return all
}

func modelReach(n int, edges [][2]int, from []int) ([]bool, api.Errno) {
	if e := wrong(n, edges, from); e != api.OK {
		return nil, e
	}
	holds := make([]bool, n)
	for _, node := range from {
		holds[node] = true
	}
	for again := true; again; {
		again = false
		for _, e := range edges {
			if holds[e[0]] && !holds[e[1]] {
				holds[e[1]], again = true, true
			}
		}
	}
	return holds, api.OK
}

func modelBack(n int, edges [][2]int, to []int) ([]bool, api.Errno) {
	return modelReach(n, turned(edges), to)
}

func modelSets(n int, edges [][2]int, seeds [][2]int) ([][]int, api.Errno) {
	var nodes []int
	for _, s := range seeds {
		nodes = append(nodes, s[0])
	}
	if e := wrong(n, edges, nodes); e != api.OK {
		return nil, e
	}
	sets := make([][]int, n)
	has := func(node, number int) bool {
		if slices.Contains(sets[node], number) {
			return false
		}
		sets[node] = append(sets[node], number)
		slices.Sort(sets[node])
		return true
	}
	for _, s := range seeds {
		has(s[0], s[1])
	}
	for again := true; again; {
		again = false
		for _, e := range edges {
			for _, number := range slices.Clone(sets[e[0]]) {
				again = has(e[1], number) || again
			}
		}
	}
	return sets, api.OK
}

func modelDistances(n int, edges [][2]int, from int) ([]int, api.Errno) {
	if e := wrong(n, edges, to(from)); e != api.OK {
		return nil, e
	}
	least := slices.Repeat(to(-1), n)
	least[from] = 0
	for again := true; again; {
		again = false
		for _, e := range edges {
			if a, b := least[e[0]], least[e[1]]; a >= 0 && (b < 0 || a+1 < b) {
				least[e[1]], again = a+1, true
			}
		}
	}
	return least, api.OK
}
