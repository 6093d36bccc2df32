package dom

import (
	"slices"

	"hallmark/api"
	"hallmark/cfg"
)

// tree is which block is over which; but for order its slices are by blocks' numbers.
type tree struct {
	order  []int   // the blocks that are met, as cfg.Order has them
	place  []int   // where a block stands in order; -1 of one that is not met
	from   [][]int // the blocks that are met of which a block is a Next, rising
	above  []int   // the block next over a block; -1, if none is, or none is known yet
	number []int   // of a met block: those that it is over have the numbers from its own on, below end
	end    []int
	passed []int // in which round a block was passed last
	round  int
}

// grown is the tree of f.
func grown(f api.Func) *tree {
	size := len(f.Blocks)
	t := &tree{
		order:  cfg.Order(f),
		place:  slices.Repeat([]int{-1}, size),
		from:   cfg.Ahead(f),
		above:  slices.Repeat([]int{-1}, size),
		number: make([]int, size),
		end:    make([]int, size),
		passed: make([]int, size),
	}
	for at, block := range t.order {
		t.place[block] = at
	}
	for block := range t.from {
		t.from[block] = slices.DeleteFunc(t.from[block], func(from int) bool { return !t.met(from) })
	}
	t.settle()
	t.count()
	return t
}

// met tells whether there is a block of that number that is met.
func (t *tree) met(block int) bool {
	return 0 <= block && block < len(t.place) && t.place[block] >= 0
}

// settle lays each block below the one that all blocks that go to it meet in, until nothing changes.
func (t *tree) settle() {
	for changed := true; changed; {
		changed = false
		for _, block := range t.order {
			if block == 0 {
				continue
			}
			if above := t.joint(block); above != t.above[block] {
				t.above[block] = above
				changed = true
			}
		}
	}
}

// joint is the lowest block that is over all that go to a block, of those whose place is known by now.
func (t *tree) joint(block int) int {
	t.round++
	joint := -1
	for _, from := range t.from[block] {
		switch {
		case from != 0 && t.above[from] < 0:
		case joint < 0:
			joint = from
		default:
			joint = t.meet(joint, from)
		}
	}
	return joint
}

// meet is the lowest block that is over both. What is over a block has an earlier place: the later one of the two goes up.
func (t *tree) meet(joint, from int) int {
	for joint != from {
		if t.place[joint] > t.place[from] {
			joint = t.above[joint]
			continue
		}
		// From a block that was passed in this round the way up leads to joint: else many blocks that go to one would make the work go up with the square.
		if t.passed[from] == t.round {
			return joint
		}
		t.passed[from] = t.round
		from = t.above[from]
	}
	return joint
}

// count gives the blocks their numbers, so that over needs no way up.
func (t *tree) count() {
	// end is how many blocks a block is over, at first.
	for _, block := range slices.Backward(t.order) {
		t.end[block]++
		if above := t.above[block]; above >= 0 {
			t.end[above] += t.end[block]
		}
	}
	free := make([]int, len(t.above))
	for _, block := range t.order {
		if above := t.above[block]; above >= 0 {
			t.number[block] = free[above]
			free[above] += t.end[block]
		}
		free[block] = t.number[block] + 1
		t.end[block] += t.number[block]
	}
}

// over tells of two blocks that are met whether a is over b.
func (t *tree) over(a, b int) bool {
	return t.number[a] <= t.number[b] && t.number[b] < t.end[a]
}

// back are the blocks from which a way back goes to head.
func (t *tree) back(head int) []int {
	var ends []int
	for _, from := range t.from[head] {
		if t.over(head, from) {
			ends = append(ends, from)
		}
	}
	return ends
}

// around are head, and the blocks from which one of ends is met without passing head, rising.
func (t *tree) around(head int, ends []int) []int {
	t.round++
	t.passed[head] = t.round
	blocks := []int{head}
	add := func(l []int) {
		for _, block := range l {
			if t.passed[block] != t.round {
				t.passed[block] = t.round
				blocks = append(blocks, block)
			}
		}
	}
	add(ends)
	// blocks grows meanwhile; head's own are not asked for.
	for at := 1; at < len(blocks); at++ {
		add(t.from[blocks[at]])
	}
	slices.Sort(blocks)
	return blocks
}
