package cfg_test

import (
	"math"
	"math/rand"
	"runtime/debug"
	"slices"
	"strconv"
	"strings"
	"testing"

	"hallmark/api"
	"hallmark/cfg"
)

// walks are functions, with what a walk by hand tells of them: the order, and how deep each block lies (-1 of those that are not met).
var walks = []struct {
	name  string
	goes  [][]int
	order []int
	deep  []int
}{
	{"nothing", nil, to(), to()},
	{"one block", [][]int{to()}, to(0), to(0)},
	{"one block that jumps to itself", [][]int{to(0)}, to(0), to(0)},
	{"one block that branches to itself", [][]int{to(0, 0)}, to(0), to(0)},
	{"one block that leads nowhere", [][]int{to(-1, 1)}, to(0), to(0)},
	{"a chain", [][]int{to(1), to(2), to(3), to()}, to(0, 1, 2, 3), to(0, 1, 2, 3)},
	{"a chain that falls", [][]int{to(3), to(), to(1), to(2)}, to(0, 3, 2, 1), to(0, 3, 2, 1)},
	{"a chain back to block 0", [][]int{to(1), to(2), to(0)}, to(0, 1, 2), to(0, 1, 2)},
	{"a chain back to its last", [][]int{to(1), to(2), to(2)}, to(0, 1, 2), to(0, 1, 2)},
	{"the chapter's example", [][]int{to(1, 2), to(3), to(3), to()}, to(0, 2, 1, 3), to(0, 1, 1, 2)},
	{"the chapter's example, turned about", [][]int{to(2, 1), to(3), to(3), to()}, to(0, 1, 2, 3), to(0, 1, 1, 2)},
	{"a branch to one block", [][]int{to(1, 1), to(2, 2), to()}, to(0, 1, 2), to(0, 1, 2)},
	{"two ends", [][]int{to(1, 2), to(), to()}, to(0, 2, 1), to(0, 1, 1)},
	{"met twice, the long way first", [][]int{to(1, 3), to(2), to(3), to(4), to()}, to(0, 1, 2, 3, 4), to(0, 1, 2, 1, 2)},
	{"met twice, the short way first", [][]int{to(3, 1), to(2), to(3), to(4), to()}, to(0, 1, 2, 3, 4), to(0, 1, 2, 1, 2)},
	{"met twice, and on", [][]int{to(1, 2), to(2), to(3, 4), to(4), to(5), to()}, to(0, 1, 2, 3, 4, 5), to(0, 1, 1, 2, 2, 3)},
	{"a loop, left behind its body", [][]int{to(1), to(2, 3), to(1), to()}, to(0, 1, 3, 2), to(0, 1, 2, 2)},
	{"a loop, left ahead of its body", [][]int{to(1), to(3, 2), to(1), to()}, to(0, 1, 2, 3), to(0, 1, 2, 2)},
	{"a loop over block 0", [][]int{to(1, 2), to(0), to()}, to(0, 2, 1), to(0, 1, 1)},
	{"a loop in a loop", [][]int{to(1), to(2, 6), to(3, 5), to(4), to(2), to(1), to()}, to(0, 1, 6, 2, 5, 3, 4), to(0, 1, 2, 3, 4, 3, 2)},
	{"a loop in a loop in a loop", [][]int{to(1), to(2), to(3), to(3, 4), to(2, 5), to(1, 6), to()}, to(0, 1, 2, 3, 4, 5, 6), to(0, 1, 2, 3, 4, 5, 6)},
	{"two heads of one loop", [][]int{to(1, 2), to(2), to(1, 3), to()}, to(0, 1, 2, 3), to(0, 1, 1, 2)},
	{"two heads, the other first", [][]int{to(2, 1), to(2), to(1, 3), to()}, to(0, 2, 3, 1), to(0, 1, 1, 2)},
	{"nothing but block 0", [][]int{to(), to(2), to(0)}, to(0), to(0, -1, -1)},
	{"not met, but leading in", [][]int{to(2), to(2), to(), to(1)}, to(0, 2), to(0, -1, 1, -1)},
	{"a loop that is not met", [][]int{to(3), to(2), to(1, 3), to()}, to(0, 3), to(0, -1, -1, 1)},
	{"below 0 and just beyond", [][]int{to(-1, 2), to(), to(3, 1)}, to(0, 2, 1), to(0, 2, 1)},
	{"far off", [][]int{to(math.MaxInt, 1), to(math.MinInt, 2), to(1<<32, -1<<32)}, to(0, 1, 2), to(0, 1, 2)},
}

// P7.2, P7.3: the walk, by hand.
func TestWalks(t *testing.T) {
	for _, x := range walks {
		f := blocks(x.goes...)
		if got := cfg.Order(f); !slices.Equal(got, x.order) {
			t.Errorf("Order of %s: %v, not %v", x.name, got, x.order)
		}
		if got := cfg.Deep(f); !slices.Equal(got, x.deep) {
			t.Errorf("Deep of %s: %v, not %v", x.name, got, x.deep)
		}
		want := make([]bool, len(x.deep))
		for at, n := range x.deep {
			want[at] = n >= 0
		}
		if got := cfg.Reached(f); !slices.Equal(got, want) {
			t.Errorf("Reached of %s: %v, not %v", x.name, got, want)
		}
	}
}

// P7.2: ends that lead nowhere end the walk, whatever their other fields hold.
func TestWalkOfEachEnd(t *testing.T) {
	for _, k := range append([]int{api.EndRet, api.EndStop}, strangers...) {
		f := blocks(to(1), to(), to(), to())
		f.Blocks[1].End = api.End{K: k, A: 2, To: 2, Else: 3}
		if order, deep := cfg.Order(f), cfg.Deep(f); !slices.Equal(order, to(0, 1)) || !slices.Equal(deep, to(0, 1, -1, -1)) {
			t.Error(k, order, deep)
		}
	}
}

// told is a function as its ways alone.
func told(f api.Func) string {
	var l strings.Builder
	for at, b := range f.Blocks {
		l.WriteString(strconv.Itoa(at) + ":")
		for _, n := range ways(b) {
			l.WriteString(" " + strconv.Itoa(n))
		}
		l.WriteString("; ")
	}
	return l.String()
}

// ways are where a block goes, in order; blocks that are not there, and those that come twice, are among them.
func ways(b api.Block) []int {
	switch b.End.K {
	case api.EndJump:
		return to(b.End.To)
	case api.EndBranch:
		return to(b.End.To, b.End.Else)
	}
	return nil
}

// inside tells whether a block is there.
func inside(f api.Func, block int) bool {
	return block >= 0 && block < len(f.Blocks)
}

// drawn are functions made up, always the same ones, from small to as great as may be; some of them lead to blocks that are not there, too.
func drawn(many int) []api.Func {
	r := rand.New(rand.NewSource(7))
	l := make([]api.Func, many)
	for at := range l {
		size := 1 + r.Intn(1+min(at/20, api.MaxBlocks))
		strange := r.Intn(3) == 0
		number := func() int {
			switch n := r.Intn(24); {
			case strange && n == 0:
				return -1 - r.Intn(2)
			case strange && n == 1:
				return size + r.Intn(2)
			case strange && n == 2:
				return int(r.Uint64())
			}
			return r.Intn(size)
		}
		kinds := []int{api.EndJump, api.EndJump, api.EndJump, api.EndBranch, api.EndBranch, api.EndBranch, api.EndBranch, api.EndBranch, api.EndRet, api.EndStop, 4, -1}
		for range size {
			e := api.End{K: kinds[r.Intn(len(kinds)-2*r.Intn(2))], A: number(), To: number(), Else: number(), L: to(number()), M: to(number())}
			l[at].Blocks = append(l[at].Blocks, api.Block{End: e})
		}
	}
	return l
}

// small are all functions of up to three blocks whose targets are theirs, just below 0, or just beyond.
func small() []api.Func {
	l := []api.Func{{}}
	for size := 1; size <= 3; size++ {
		var ends []api.End
		for a := -1; a <= size; a++ {
			ends = append(ends, api.End{K: api.EndJump, To: a, Else: 1})
			for b := -1; b <= size; b++ {
				ends = append(ends, api.End{K: api.EndBranch, To: a, Else: b})
			}
		}
		ends = append(ends, api.End{K: api.EndRet, To: 1, Else: 2})
		l = append(l, ofAll(ends, size)...)
	}
	return l
}

// ofAll are all functions of that many blocks with these ends.
func ofAll(ends []api.End, size int) []api.Func {
	if size == 0 {
		return []api.Func{{}}
	}
	var l []api.Func
	for _, f := range ofAll(ends, size-1) {
		for _, e := range ends {
			l = append(l, api.Func{Blocks: append(slices.Clone(f.Blocks), api.Block{End: e})})
		}
	}
	return l
}

// walked is the walk as the chapter tells it, a call for each block.
func walked(f api.Func) []int {
	met := map[int]bool{}
	var left []int
	var walk func(block int)
	walk = func(block int) {
		if !inside(f, block) || met[block] {
			return
		}
		met[block] = true
		for _, n := range ways(f.Blocks[block]) {
			walk(n)
		}
		left = append(left, block)
	}
	walk(0)
	slices.Reverse(left)
	return left
}

// leastWays are, for each block that is met, of all ways to it that pass no block twice the one that turns to first targets the earliest: 0 or 1 for each step.
func leastWays(f api.Func) map[int][]int {
	least := map[int][]int{}
	var turn func(block int, passed, way []int)
	turn = func(block int, passed, way []int) {
		if !inside(f, block) || slices.Contains(passed, block) {
			return
		}
		if old, ok := least[block]; !ok || slices.Compare(way, old) < 0 {
			least[block] = slices.Clone(way)
		}
		for at, n := range ways(f.Blocks[block]) {
			turn(n, append(slices.Clone(passed), block), append(slices.Clone(way), at))
		}
	}
	turn(0, nil, nil)
	return least
}

// byWays is the order by another rule: of two blocks the one stands ahead on whose least way the other one's lies, or whose least way turns later where they part.
func byWays(f api.Func) []int {
	least := leastWays(f)
	var l []int
	for block := range f.Blocks {
		if _, ok := least[block]; ok {
			l = append(l, block)
		}
	}
	slices.SortFunc(l, func(a, b int) int {
		x, y := least[a], least[b]
		for at := range min(len(x), len(y)) {
			if x[at] != y[at] {
				return y[at] - x[at]
			}
		}
		return len(x) - len(y)
	})
	return l
}

// depths are Deep by another rule: each way makes its end no deeper than one step behind its beginning, until nothing changes.
func depths(f api.Func) []int {
	deep := make([]int, len(f.Blocks))
	far := len(f.Blocks)
	for at := range deep {
		deep[at] = far
	}
	if len(deep) > 0 {
		deep[0] = 0
	}
	for changed := true; changed; {
		changed = false
		for from, b := range f.Blocks {
			for _, n := range ways(b) {
				if inside(f, n) && deep[n] > deep[from]+1 {
					deep[n] = deep[from] + 1
					changed = true
				}
			}
		}
	}
	for at, n := range deep {
		if n == far {
			deep[at] = -1
		}
	}
	return deep
}

// agree is P7.2 and P7.3: Order is as worked out, and Reached and Deep are as the other rule tells.
func agree(t *testing.T, f api.Func, order []int) {
	t.Helper()
	deep := depths(f)
	reached := make([]bool, len(f.Blocks))
	for at, n := range deep {
		reached[at] = n >= 0
	}
	if got := cfg.Order(f); !slices.Equal(got, order) {
		t.Errorf("Order of %s: %v, not %v", told(f), got, order)
	}
	if got := cfg.Reached(f); !slices.Equal(got, reached) {
		t.Errorf("Reached of %s: %v, not %v", told(f), got, reached)
	}
	if got := cfg.Deep(f); !slices.Equal(got, deep) {
		t.Errorf("Deep of %s: %v, not %v", told(f), got, deep)
	}
}

// P7.2 to P7.5, of all small functions.
func TestAllSmall(t *testing.T) {
	for _, f := range small() {
		agree(t, f, byWays(f))
		eachOnce(t, f)
		forward(t, f)
	}
}

// P7.2 to P7.5, of functions made up.
func TestDrawn(t *testing.T) {
	rising := 0
	for _, f := range drawn(4000) {
		agree(t, f, walked(f))
		if len(f.Blocks) <= 9 {
			agree(t, f, byWays(f))
		}
		eachOnce(t, f)
		if forward(t, f) {
			rising++
		}
	}
	if rising < 100 {
		t.Error("few functions without a loop", rising)
	}
}

// eachOnce is P7.4: each block at most once, block 0 first, each other one with one ahead that is met.
func eachOnce(t *testing.T, f api.Func) {
	t.Helper()
	order, reached, ahead := cfg.Order(f), cfg.Reached(f), cfg.Ahead(f)
	seen := map[int]bool{}
	for at, block := range order {
		if !inside(f, block) || seen[block] || !reached[block] || (at == 0) != (block == 0) {
			t.Errorf("Order of %s: %v", told(f), order)
		}
		seen[block] = true
		met := func(from int) bool { return slices.Contains(order, from) }
		if block != 0 && !slices.ContainsFunc(ahead[block], met) {
			t.Errorf("Order of %s: %v, but none is ahead of %d", told(f), order, block)
		}
	}
	if len(f.Blocks) > 0 && len(order) == 0 {
		t.Errorf("Order of %s is empty", told(f))
	}
}

// again tells whether any block can be met from itself.
func again(f api.Func) bool {
	size := len(f.Blocks)
	leads := make([][]bool, size)
	for from, b := range f.Blocks {
		leads[from] = make([]bool, size)
		for _, n := range ways(b) {
			if inside(f, n) {
				leads[from][n] = true
			}
		}
	}
	for by := range size {
		for from := range size {
			for n := range size {
				leads[from][n] = leads[from][n] || leads[from][by] && leads[by][n]
			}
		}
	}
	for at := range size {
		if leads[at][at] {
			return true
		}
	}
	return false
}

// forward is P7.5: where no block can be met from itself (which it answers), each block stands ahead of its Next.
func forward(t *testing.T, f api.Func) bool {
	t.Helper()
	if again(f) {
		return false
	}
	order := cfg.Order(f)
	for at, block := range order {
		for _, n := range cfg.Next(f.Blocks[block]) {
			if inside(f, n) && slices.Index(order, n) <= at {
				t.Errorf("Order of %s: %v, but %d goes to %d", told(f), order, block, n)
			}
		}
	}
	return true
}

// P7.5: the same of greater functions that have no loop, whatever numbers their blocks have.
func TestForward(t *testing.T) {
	r := rand.New(rand.NewSource(75))
	for range 2000 {
		size := 2 + r.Intn(api.MaxBlocks-1)
		// number tells which number the block at a place has: block 0 keeps its own.
		number := append(to(0), r.Perm(size-1)...)
		for at := 1; at < size; at++ {
			number[at]++
		}
		f := blocks(make([][]int, size)...)
		for at := range size - 1 {
			later := func() int { return number[at+1+r.Intn(min(size-at-1, 6))] }
			f.Blocks[number[at]].End = api.End{K: r.Intn(2), To: later(), Else: later()}
		}
		if !forward(t, f) {
			t.Fatal("a loop in", told(f))
		}
		agree(t, f, walked(f))
	}
}

// long is how many blocks the longest chains have: by far more than MaxBlocks.
const long = 1 << 18

// chain is a function of that many blocks, each of which goes where goes tells.
func chain(size int, goes func(at int) []int) api.Func {
	f := api.Func{Blocks: make([]api.Block, size)}
	for at := range f.Blocks {
		e := api.End{K: api.EndRet}
		switch l := goes(at); len(l) {
		case 1:
			e = api.End{K: api.EndJump, To: l[0]}
		case 2:
			e = api.End{K: api.EndBranch, To: l[0], Else: l[1]}
		}
		f.Blocks[at].End = e
	}
	return f
}

// P7.2, P7.3: long chains of blocks, with little room for calls that lie in one another.
func TestLongChains(t *testing.T) {
	defer debug.SetMaxStack(debug.SetMaxStack(1 << 20))
	for _, size := range []int{api.MaxBlocks, api.MaxBlocks + 1, long} {
		rising := func(at int) int { return at }
		for _, x := range []struct {
			name  string
			goes  func(at int) []int
			order func(place int) int
			deep  func(at int) int
		}{
			{"a chain", func(at int) []int { return to(at + 1) }, rising, rising},
			{"a chain with ways back to block 0", func(at int) []int { return to(0, at+1) }, rising, rising},
			{"a chain with ways to themselves", func(at int) []int { return to(at+1, at) }, rising, rising},
			{"a chain with short ways", func(at int) []int { return to(at+1, at+2) }, rising, func(at int) int { return (at + 1) / 2 }},
			{"a chain with short ways first", func(at int) []int { return to(at+2, at+1) }, rising, func(at int) int { return (at + 1) / 2 }},
			{"a chain that falls", func(at int) []int {
				if at == 0 {
					return to(size - 1)
				}
				return to(at-1, at)
			}, func(place int) int { return (size - place) % size }, func(at int) int { return (size - at) % size }},
		} {
			f := chain(size, x.goes)
			order, deep := cfg.Order(f), cfg.Deep(f)
			if len(order) != size || len(deep) != size {
				t.Fatal(x.name, size, len(order), len(deep))
			}
			for at := range size {
				if order[at] != x.order(at) || deep[at] != x.deep(at) {
					t.Fatal(x.name, size, at, order[at], deep[at])
				}
			}
			if slices.Contains(cfg.Reached(f), false) {
				t.Error("a block is not met", x.name, size)
			}
		}
	}
}

// P7.1: Ahead of many blocks that go to one.
func TestAheadOfMany(t *testing.T) {
	f := chain(long, func(at int) []int { return to(0, long-1) })
	ahead := cfg.Ahead(f)
	for _, block := range []int{0, long - 1} {
		if l := ahead[block]; len(l) != long || l[0] != 0 || !slices.IsSorted(l) || l[long-1] != long-1 {
			t.Error(block, len(l))
		}
	}
	if len(ahead) != long || len(ahead[1]) != 0 {
		t.Error(len(ahead))
	}
}
