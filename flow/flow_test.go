package flow_test

import (
	"math"
	"slices"
	"testing"

	"hallmark/api"
	"hallmark/flow"
)

const most = api.MaxNodes

// P14.1: what is refused, with which error, each time by all calls, and with nothing beside the error.
func TestP14_1Refused(t *testing.T) {
	for _, c := range []struct {
		name  string
		n     int
		edges [][2]int
		want  api.Errno
	}{
		{"below 0", -1, nil, api.ErrArg},
		{"the least", math.MinInt, nil, api.ErrArg},
		{"below 0, and an edge", -1, pairs(0, 0), api.ErrArg},
		{"no node, and an edge", 0, pairs(0, 0), api.ErrArg},
		{"from n", 3, pairs(0, 1, 3, 0), api.ErrArg},
		{"to n", 3, pairs(0, 1, 0, 3), api.ErrArg},
		{"from behind n", 3, pairs(4, 0), api.ErrArg},
		{"to behind n", 3, pairs(0, 4), api.ErrArg},
		{"from the greatest", 3, pairs(math.MaxInt, 0), api.ErrArg},
		{"to the greatest", 3, pairs(0, math.MaxInt), api.ErrArg},
		{"from below 0", 3, pairs(-1, 0, 0, 1), api.ErrArg},
		{"to below 0", 3, pairs(0, -1, 0, 1), api.ErrArg},
		{"from the least", 3, pairs(math.MinInt, 0), api.ErrArg},
		{"to the least", 3, pairs(0, math.MinInt), api.ErrArg},
		{"one too many", most + 1, nil, api.ErrLong},
		{"one too many, and an edge", most + 1, pairs(0, most), api.ErrLong},
		{"very many", math.MaxInt, pairs(math.MaxInt-1, 0), api.ErrLong},
		{"one too many, and an edge from none", most + 1, pairs(most+1, 0), api.ErrArg},
		{"one too many, and an edge to none", most + 1, pairs(0, 1, 0, -1), api.ErrArg},
		{"the greatest, and an edge to none", math.MaxInt, pairs(0, math.MaxInt), api.ErrArg},
		{"most, and an edge to none", most, pairs(0, most), api.ErrArg},
	} {
		a := asked(t, question{c.n, c.edges, to(0), pairs(0, 7)})
		if !alike(a, answers{faults: [4]api.Errno{c.want, c.want, c.want, c.want}}) {
			t.Error(c.name, a)
		}
		// Without a start and a seed, too; Distances has one always.
		a = asked(t, question{n: c.n, edges: c.edges})
		if !alike(a, answers{faults: [4]api.Errno{c.want, c.want, c.want, api.ErrArg}}) {
			t.Error(c.name, a)
		}
	}
}

// P14.1: starts and seeds that are no nodes.
func TestP14_1Starts(t *testing.T) {
	for _, n := range []int{0, 1, 3, most, most + 1, math.MaxInt} {
		for _, start := range []int{n, n + 1, -1, math.MaxInt, math.MinInt} {
			if n == math.MaxInt && start == n+1 {
				continue
			}
			alone := question{n, nil, to(start), pairs(start, 0)}
			if a := asked(t, alone); !alike(a, answers{faults: [4]api.Errno{api.ErrArg, api.ErrArg, api.ErrArg, api.ErrArg}}) {
				t.Error(n, start, a)
			}
			if n == 0 {
				continue
			}
			last := question{n, pairs(0, 0), to(0, n-1, start), pairs(0, start, n-1, -1, start, 0)}
			a := asked(t, last)
			if want := [3]api.Errno{api.ErrArg, api.ErrArg, api.ErrArg}; [3]api.Errno(a.faults[:3]) != want || a.reach != nil || a.back != nil || a.sets != nil {
				t.Error(n, start, a)
			}
		}
	}
	// A seed's number need not be a node.
	if got, e := flow.Sets(1, nil, pairs(0, 1, 0, -1, 0, math.MaxInt)); e != api.OK || !slices.Equal(got[0], to(-1, 1, math.MaxInt)) {
		t.Error(got, e)
	}
}

// P14.1: no nodes, one, and as many as there may be.
func TestP14_1Sizes(t *testing.T) {
	none := asked(t, question{})
	if !alike(none, answers{faults: [4]api.Errno{3: api.ErrArg}}) {
		t.Error(none)
	}
	for _, c := range []struct {
		q    question
		want answers
	}{
		{question{1, nil, nil, nil}, answers{reach: bits("0"), back: bits("0"), sets: sets(nil), faults: [4]api.Errno{3: api.ErrArg}}},
		{question{1, nil, to(0), pairs(0, 5)}, answers{reach: bits("1"), back: bits("1"), sets: sets(to(5)), distances: to(0)}},
		{question{1, pairs(0, 0), to(0), pairs(0, 5)}, answers{reach: bits("1"), back: bits("1"), sets: sets(to(5)), distances: to(0)}},
		{question{1, pairs(0, 0, 0, 0), to(0, 0), nil}, answers{reach: bits("1"), back: bits("1"), sets: sets(nil), distances: to(0)}},
		{question{1, pairs(0, 0), nil, nil}, answers{reach: bits("0"), back: bits("0"), sets: sets(nil), faults: [4]api.Errno{3: api.ErrArg}}},
	} {
		if a := held(t, c.q); !alike(a, c.want) {
			t.Errorf("%+v, not %+v, of %+v", a, c.want, c.q)
		}
	}
	q := question{most, pairs(most-1, 0), to(most - 1), pairs(most-1, -3)}
	a := asked(t, q)
	if !alike(a, modelled(q)) || a.faults != [4]api.Errno{} || len(a.reach) != most || !a.reach[0] || a.back[0] || len(a.sets[0]) != 1 || a.distances[0] != 1 || a.distances[1] != -1 {
		t.Error(a.faults)
	}
}

// P14.1: Reach and Back.
func TestP14_1Reach(t *testing.T) {
	// 0 and 1 meet one another, 1 goes on to 2, from which 3, 4, 2 is a loop, with the loop 3, 4 in it; 5 is by itself, with a loop; 6 goes to 7.
	loops := pairs(0, 1, 1, 0, 1, 2, 2, 3, 3, 4, 4, 3, 4, 2, 5, 5, 6, 7)
	up, down := pairs(0, 1, 1, 2, 2, 3), pairs(2, 3, 1, 2, 0, 1)
	for _, c := range []struct {
		name        string
		n           int
		edges       [][2]int
		from        []int
		reach, back string
	}{
		{"example 1", 4, pairs(0, 1, 1, 2), to(1), "0110", "1100"},
		{"no start", 3, pairs(0, 1, 1, 2), nil, "000", "000"},
		{"no edges", 3, nil, to(1), "010", "010"},
		{"no edges, several", 4, nil, to(3, 0), "1001", "1001"},
		{"several", 5, pairs(0, 1, 2, 3), to(0, 2), "11110", "10100"},
		{"one twice", 3, pairs(0, 1), to(0, 0), "110", "100"},
		{"to itself", 3, pairs(1, 1), to(1), "010", "010"},
		{"to itself, another one's", 3, pairs(1, 1), to(0), "100", "100"},
		{"the same edge twice", 3, pairs(0, 1, 0, 1), to(0), "110", "100"},
		{"a loop", 4, pairs(0, 1, 1, 2, 2, 0), to(1), "1110", "1110"},
		{"loops, from their beginning", 8, loops, to(0), "11111000", "11000000"},
		{"loops, from their middle", 8, loops, to(3), "00111000", "11111000"},
		{"a part", 8, loops, to(5), "00000100", "00000100"},
		{"another part", 8, loops, to(7), "00000001", "00000011"},
		{"two parts", 8, loops, to(6, 4), "00111011", "11111010"},
		{"a chain, from its beginning", 4, up, to(0), "1111", "1000"},
		{"a chain, from its end", 4, up, to(3), "0001", "1111"},
		{"a chain, in it", 4, up, to(2), "0011", "1110"},
		{"the chain the other way, from its beginning", 4, down, to(0), "1111", "1000"},
		{"the chain the other way, from its end", 4, down, to(3), "0001", "1111"},
		{"two ways that meet again", 5, pairs(0, 1, 0, 2, 1, 3, 2, 3), to(0), "11110", "10000"},
	} {
		a := held(t, question{c.n, c.edges, c.from, nil})
		if !slices.Equal(a.reach, bits(c.reach)) || !slices.Equal(a.back, bits(c.back)) || a.faults[0] != api.OK || a.faults[1] != api.OK {
			t.Error(c.name, a.reach, a.back)
		}
	}
}

// P14.1: Sets.
func TestP14_1Sets(t *testing.T) {
	const least, greatest = math.MinInt, math.MaxInt
	for _, c := range []struct {
		name  string
		n     int
		edges [][2]int
		seeds [][2]int
		want  [][]int
	}{
		{"no seed", 2, pairs(0, 1), nil, sets(nil, nil)},
		{"no edges", 3, nil, pairs(1, 5), sets(nil, to(5), nil)},
		{"one seed twice", 2, pairs(0, 1), pairs(0, 5, 0, 5), sets(to(5), to(5))},
		{"several at one", 2, pairs(0, 1), pairs(0, 5, 0, 3, 0, 4), sets(to(3, 4, 5), to(3, 4, 5))},
		{"one at several", 3, pairs(0, 2, 1, 2), pairs(0, 5, 1, 5), sets(to(5), to(5), to(5))},
		{"greatest and least", 2, pairs(0, 1), pairs(1, greatest, 0, least, 0, 0, 1, -1), sets(to(least, 0), to(least, -1, 0, greatest))},
		{"a loop", 3, pairs(0, 1, 1, 2, 2, 0), pairs(2, 1, 0, 9, 1, -4), sets(to(-4, 1, 9), to(-4, 1, 9), to(-4, 1, 9))},
		{"ahead of a loop, and behind it", 4, pairs(0, 1, 1, 2, 2, 1, 2, 3), pairs(0, 8, 1, 7, 2, 6, 3, 5), sets(to(8), to(6, 7, 8), to(6, 7, 8), to(5, 6, 7, 8))},
		{"two ways that meet again", 4, pairs(0, 1, 0, 2, 1, 3, 2, 3), pairs(0, 2, 1, 1, 2, 3), sets(to(2), to(1, 2), to(2, 3), to(1, 2, 3))},
		{"to itself", 2, pairs(0, 0), pairs(0, 1), sets(to(1), nil)},
		{"numbers like nodes", 3, pairs(2, 1, 1, 0), pairs(0, 0, 1, 1, 2, 2), sets(to(0, 1, 2), to(1, 2), to(2))},
		{"two parts", 4, pairs(0, 1, 2, 3), pairs(0, 1, 2, 2), sets(to(1), to(1), to(2), to(2))},
	} {
		a := held(t, question{c.n, c.edges, nil, c.seeds})
		if !slices.EqualFunc(a.sets, c.want, slices.Equal[[]int]) || a.faults[2] != api.OK {
			t.Error(c.name, a.sets)
		}
	}
}

// P14.1: Distances.
func TestP14_1Distances(t *testing.T) {
	for _, c := range []struct {
		name  string
		n     int
		edges [][2]int
		from  int
		want  []int
	}{
		{"no edges", 3, nil, 1, to(-1, 0, -1)},
		{"a chain", 4, pairs(2, 3, 1, 2, 0, 1), 0, to(0, 1, 2, 3)},
		{"from its end", 3, pairs(0, 1, 1, 2), 2, to(-1, -1, 0)},
		{"two ways, the longer one first", 5, pairs(0, 1, 1, 2, 2, 3, 0, 3, 3, 4), 0, to(0, 1, 2, 1, 2)},
		{"two ways, the shorter one first", 5, pairs(0, 4, 4, 3, 0, 1, 1, 2, 2, 3), 0, to(0, 1, 2, 2, 1)},
		{"a loop through the start", 4, pairs(0, 1, 1, 2, 2, 0), 1, to(2, 0, 1, -1)},
		{"the start to itself", 2, pairs(0, 0, 0, 1), 0, to(0, 1)},
		{"the same edge twice", 2, pairs(0, 1, 0, 1), 0, to(0, 1)},
		{"two parts", 4, pairs(0, 1, 2, 3), 2, to(-1, -1, 0, 1)},
	} {
		a := held(t, question{c.n, c.edges, to(c.from), nil})
		if !slices.Equal(a.distances, c.want) || a.faults[3] != api.OK {
			t.Error(c.name, a.distances)
		}
	}
}
