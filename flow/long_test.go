package flow_test

import (
	"runtime/debug"
	"slices"
	"testing"

	"hallmark/api"
	"hallmark/flow"
)

// P14.1: the longest chains, and the longest loops, with little room for calls that lie in one another: edges in the order in which they are walked, and the other way round, between nodes that rise, and that fall.
func TestLongChains(t *testing.T) {
	defer debug.SetMaxStack(debug.SetMaxStack(1 << 19))
	for kind := range 8 {
		node := func(place int) int {
			if kind&1 != 0 {
				return most - 1 - place
			}
			return place
		}
		var edges [][2]int
		for place := range most - 1 {
			edges = append(edges, [2]int{node(place), node(place + 1)})
		}
		if kind&2 != 0 {
			slices.Reverse(edges)
		}
		loop := kind&4 != 0
		if loop {
			edges = append(edges, [2]int{node(most - 1), node(0)})
		}
		half := most / 2
		reach, _ := flow.Reach(most, edges, to(node(half)))
		back, _ := flow.Back(most, edges, to(node(half)))
		distances, _ := flow.Distances(most, edges, node(half))
		sets, e := flow.Sets(most, edges, [][2]int{{node(half), 1}, {node(0), 2}, {node(most - 1), 3}})
		if e != api.OK {
			t.Fatal(e)
		}
		for place := range most {
			far, has := place-half, to(2)
			if far >= 0 {
				has = to(1, 2)
			}
			if far == half-1 {
				has = to(1, 2, 3)
			}
			if loop {
				far, has = (far+most)%most, to(1, 2, 3)
			}
			at := node(place)
			if reach[at] != (far >= 0) || back[at] != (loop || far <= 0) || distances[at] != max(far, -1) || !slices.Equal(sets[at], has) {
				t.Fatal(kind, place, reach[at], back[at], distances[at], sets[at])
			}
		}
	}
}

// P14.1: as many nodes as there may be, each with a number of its own, in one loop of many edges; and a chain.
func TestManySeeds(t *testing.T) {
	var edges, seeds [][2]int
	for node := range most {
		for far := range 8 {
			edges = append(edges, [2]int{node, (node + 1 + 977*far) % most})
		}
	}
	for node := range 3000 {
		seeds = append(seeds, [2]int{node * 5, -node})
	}
	sets, e := flow.Sets(most, edges, seeds)
	if e != api.OK {
		t.Fatal(e)
	}
	for node, has := range sets {
		if len(has) != 3000 || has[0] != -2999 || has[2999] != 0 || !slices.IsSorted(has) {
			t.Fatal(node, len(has))
		}
	}
	edges, seeds = nil, nil
	for node := range 3000 {
		edges = append(edges, [2]int{node, max(node-1, 0)}, [2]int{node, max(node-2, 0)})
		seeds = append(seeds, [2]int{node, node})
	}
	sets, e = flow.Sets(3000, edges, seeds)
	for node, has := range sets {
		if e != api.OK || len(has) != 3000-node || has[0] != node || has[len(has)-1] != 2999 || !slices.IsSorted(has) {
			t.Fatal(node, len(has))
		}
	}
}

// P14.1: very many edges.
func TestManyEdges(t *testing.T) {
	var edges [][2]int
	for a := range 1000 {
		for b := range 1000 {
			edges = append(edges, [2]int{a, b})
		}
	}
	q := question{1001, edges, to(7), pairs(7, 1, 1000, 2)}
	a := asked(t, q)
	for node := range 1000 {
		if !a.reach[node] || !a.back[node] || !slices.Equal(a.sets[node], to(1)) || a.distances[node] != min(1, max(node, 7)-min(node, 7)) {
			t.Fatal(node)
		}
	}
	if a.reach[1000] || a.back[1000] || !slices.Equal(a.sets[1000], to(2)) || a.distances[1000] != -1 {
		t.Error(a.sets[1000])
	}
}
