package flow_test

import (
	"slices"
	"testing"

	"hallmark/api"
	"hallmark/flow"
)

func to(l ...int) []int { return l }

// pairs are edges or seeds, written shortly: each two numbers are one.
func pairs(l ...int) [][2]int {
	var all [][2]int
	for at := 0; at+1 < len(l); at += 2 {
		all = append(all, [2]int{l[at], l[at+1]})
	}
	return all
}

// bits are truths, written shortly: 1 is true.
func bits(s string) []bool {
	var all []bool
	for at := range len(s) {
		all = append(all, s[at] == '1')
	}
	return all
}

func sets(l ...[]int) [][]int { return l }

// question is what the four calls are asked; Distances of the first start.
type question struct {
	n     int
	edges [][2]int
	from  []int
	seeds [][2]int
}

// start is the node that Distances is asked of: if there is no start, one that is no node.
func (q question) start() int {
	if len(q.from) == 0 {
		return -1
	}
	return q.from[0]
}

// roomy is q in memory of its own, each list with spare room in which something stands.
func (q question) roomy() question {
	return question{q.n, withRoom(q.edges, [2]int{0, 0}), withRoom(q.from, 0), withRoom(q.seeds, [2]int{0, 99})}
}

// exact tells whether two questions are the same, the spare room of their lists too.
func (q question) exact(r question) bool {
	return q.n == r.n && slices.Equal(whole(q.edges), whole(r.edges)) && slices.Equal(whole(q.from), whole(r.from)) && slices.Equal(whole(q.seeds), whole(r.seeds))
}

func withRoom[T any](l []T, spare T) []T {
	return append(append(make([]T, 0, len(l)+2), l...), spare, spare)[:len(l)]
}

func whole[T any](l []T) []T { return l[:cap(l)] }

// answers are what the four calls tell.
type answers struct {
	reach, back []bool
	sets        [][]int
	distances   []int
	faults      [4]api.Errno
}

func told(q question) (a answers) {
	a.reach, a.faults[0] = flow.Reach(q.n, q.edges, q.from)
	a.back, a.faults[1] = flow.Back(q.n, q.edges, q.from)
	a.sets, a.faults[2] = flow.Sets(q.n, q.edges, q.seeds)
	a.distances, a.faults[3] = flow.Distances(q.n, q.edges, q.start())
	return a
}

func modelled(q question) (a answers) {
	a.reach, a.faults[0] = modelReach(q.n, q.edges, q.from)
	a.back, a.faults[1] = modelBack(q.n, q.edges, q.from)
	a.sets, a.faults[2] = modelSets(q.n, q.edges, q.seeds)
	a.distances, a.faults[3] = modelDistances(q.n, q.edges, q.start())
	return a
}

func alike(a, b answers) bool {
	return slices.Equal(a.reach, b.reach) && slices.Equal(a.back, b.back) && slices.EqualFunc(a.sets, b.sets, slices.Equal[[]int]) &&
		slices.Equal(a.distances, b.distances) && a.faults == b.faults
}

// asked is told, too; it asks that what is handed in stays as it is, spare room too, and that answers are memory of their own.
func asked(t *testing.T, q question) answers {
	t.Helper()
	given, before := q.roomy(), q.roomy()
	a, b := told(given), told(given)
	if !alike(a, b) {
		t.Fatalf("two answers: %+v, and %+v", a, b)
	}
	spoil(t, b)
	if c := told(given); !alike(a, c) {
		t.Fatalf("two answers share memory: %+v, and %+v", a, c)
	}
	if !given.exact(before) {
		t.Fatal("what is handed in is changed")
	}
	return a
}

// spoil scribbles over all lists, their spare room too, and asks that none of them is another one's.
func spoil(t *testing.T, a answers) {
	t.Helper()
	l := append(slices.Clone(a.sets), a.distances)
	for n := range l {
		l[n] = whole(l[n])
		for at := range l[n] {
			l[n][at] = -1000 - n
		}
	}
	for n := range l {
		if slices.ContainsFunc(l[n], func(x int) bool { return x != -1000-n }) {
			t.Fatal("two lists share memory")
		}
	}
	clear(whole(a.sets))
	for _, m := range [][]bool{whole(a.reach), whole(a.back), whole(a.reach)} {
		for at := range m {
			m[at] = !m[at]
		}
	}
}

// held asks that what is told is what the model tells, and P14.2 to P14.4 of it.
func held(t *testing.T, q question) answers {
	t.Helper()
	got := asked(t, q)
	if want := modelled(q); !alike(got, want) {
		t.Fatalf("%+v, not %+v, of %+v", got, want, q)
	}
	for node := range got.reach {
		back, _ := flow.Back(q.n, q.edges, to(node))
		reach, _ := flow.Reach(q.n, q.edges, to(node))
		for other := range q.n {
			// P14.2, of all nodes and this one.
			there, _ := flow.Reach(q.n, q.edges, to(other))
			here, _ := flow.Back(q.n, q.edges, to(other))
			if back[other] != there[node] || reach[other] != here[node] {
				t.Fatalf("nodes %d, %d of %+v", node, other, q)
			}
		}
	}
	grows(t, q, got)
	for _, s := range q.seeds {
		// P14.4, of this seed's number: Reach of all nodes that have it.
		var starts []int
		for _, other := range q.seeds {
			if other[1] == s[1] {
				starts = append(starts, other[0])
			}
		}
		reach, _ := flow.Reach(q.n, q.edges, starts)
		for node, has := range got.sets {
			if slices.Contains(has, s[1]) != reach[node] {
				t.Fatalf("node %d, number %d of %+v", node, s[1], q)
			}
		}
	}
	return got
}

// grows asks P14.3: without its last edge, start, seed, nothing is more.
func grows(t *testing.T, q question, all answers) {
	t.Helper()
	less := func(q question) {
		t.Helper()
		a := told(q)
		// What is refused whole need not be refused without its last one.
		for node := range all.reach {
			if a.reach[node] && !all.reach[node] || a.back[node] && !all.back[node] {
				t.Fatalf("more reaches less: node %d of %+v", node, q)
			}
		}
		for node := range all.sets {
			for _, number := range a.sets[node] {
				if !slices.Contains(all.sets[node], number) {
					t.Fatalf("more gives less: node %d, number %d of %+v", node, number, q)
				}
			}
		}
		for node, n := range all.distances {
			if less := a.distances[node]; less >= 0 && (n < 0 || n > less) {
				t.Fatalf("more is farther: node %d of %+v", node, q)
			}
		}
	}
	if last := len(q.edges) - 1; last >= 0 {
		less(question{q.n, q.edges[:last], q.from, q.seeds})
	}
	if last := len(q.from) - 1; last > 0 {
		less(question{q.n, q.edges, q.from[:last], q.seeds})
	}
	if last := len(q.seeds) - 1; last >= 0 {
		less(question{q.n, q.edges, q.from, q.seeds[:last]})
	}
}
