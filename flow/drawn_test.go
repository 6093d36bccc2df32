package flow_test

import (
	"math"
	"math/rand"
	"slices"
	"testing"
)

// P14.1 to P14.4, of all edges between up to three nodes, with starts and seeds at each.
func TestAllSmall(t *testing.T) {
	for n := 0; n <= 3; n++ {
		for drawn := range 1 << (n * n) {
			var edges [][2]int
			for bit := range n * n {
				if drawn>>bit&1 != 0 {
					edges = append(edges, [2]int{bit / n, bit % n})
				}
			}
			for some := range 1 << n {
				q := question{n: n, edges: edges}
				for node := range n {
					if some>>node&1 != 0 {
						q.from = append(q.from, node)
						q.seeds = append(q.seeds, [2]int{node, -node / 2}, [2]int{node, some})
					}
				}
				held(t, q)
			}
		}
	}
}

// drawnPairs are that many pairs of a number below n and one that is drawn.
func drawnPairs(r *rand.Rand, many, n int, second func() int) [][2]int {
	var all [][2]int
	for range many {
		all = append(all, [2]int{r.Intn(n), second()})
	}
	return all
}

// P14.1 to P14.4, of drawn edges, starts and seeds: of some of them one is no node.
func TestDrawn(t *testing.T) {
	r := rand.New(rand.NewSource(14))
	refused, met, apart := 0, 0, 0
	for range 3000 {
		n := 1 + r.Intn(12)
		node := func() int { return r.Intn(n) }
		number := func() int { return r.Intn(9) - 4 }
		q := question{n: n, edges: drawnPairs(r, r.Intn(2*n), n, node), seeds: drawnPairs(r, r.Intn(8), n, number)}
		for range r.Intn(4) {
			q.from = append(q.from, node())
		}
		if r.Intn(8) == 0 {
			bad := []int{-1, n, n + 1, math.MaxInt, math.MinInt}[r.Intn(5)]
			switch r.Intn(4) {
			case 0:
				q.edges = slices.Insert(q.edges, r.Intn(len(q.edges)+1), [2]int{bad, node()})
			case 1:
				q.edges = slices.Insert(q.edges, r.Intn(len(q.edges)+1), [2]int{node(), bad})
			case 2:
				q.from = slices.Insert(q.from, r.Intn(len(q.from)+1), bad)
			case 3:
				q.seeds = slices.Insert(q.seeds, r.Intn(len(q.seeds)+1), [2]int{bad, number()})
			}
			refused++
		}
		a := held(t, q)
		for node, has := range a.sets {
			if len(has) > 2 {
				met++
			}
			if len(a.distances) > 0 && a.distances[node] < 0 {
				apart++
			}
		}
	}
	if refused < 200 || met < 2000 || apart < 2000 {
		t.Error(refused, met, apart)
	}
}

// P14.1, P14.4, of more numbers than are gone over at a time.
func TestManyNumbers(t *testing.T) {
	r := rand.New(rand.NewSource(141))
	for _, many := range []int{63, 64, 65, 127, 128, 511, 512, 513, 1023, 1024, 1025, 1500} {
		n := 40
		q := question{n: n, edges: drawnPairs(r, n, n, func() int { return r.Intn(n) })}
		for number := range many {
			q.seeds = append(q.seeds, [2]int{r.Intn(n), number*7919 - 100000}, [2]int{r.Intn(n), number*7919 - 100000})
		}
		r.Shuffle(len(q.seeds), func(a, b int) { q.seeds[a], q.seeds[b] = q.seeds[b], q.seeds[a] })
		if a := asked(t, q); !alike(a, modelled(q)) {
			t.Fatal(many)
		}
	}
}
