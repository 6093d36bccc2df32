package heap_test

import (
	"math"
	"runtime"
	"slices"
	"testing"

	"hallmark/api"
	"hallmark/heap"
)

// num, str and ref are values with one part each.
func num(n int64) api.Val  { return api.Val{N: n} }
func str(s string) api.Val { return api.Val{S: s} }
func ref(r int) api.Val    { return api.Val{R: r} }

// made asks that an object was made, and has that number.
func made(t *testing.T, want int) func(r, how int) int {
	return func(r, how int) int {
		t.Helper()
		if r != want || how != api.Done {
			t.Fatalf("made %d, %d, not %d", r, how, want)
		}
		return r
	}
}

// refused asks that none was made, for that reason.
func refused(t *testing.T, want int) func(r, how int) {
	return func(r, how int) {
		t.Helper()
		if r != 0 || how != want {
			t.Errorf("made %d, %d, not 0, %d", r, how, want)
		}
	}
}

// took asks for Used and Makes.
func took(t *testing.T, m *heap.Mem, used, makes int) {
	t.Helper()
	if m.Used() != used || m.Makes() != makes {
		t.Errorf("Used %d, Makes %d, not %d, %d", m.Used(), m.Makes(), used, makes)
	}
}

// row is a call, with what it should answer.
type row struct {
	call
	want answer
}

func asked(t *testing.T, m *heap.Mem, rows ...row) {
	t.Helper()
	for _, x := range rows {
		if got := x.on(m); got != x.want {
			t.Errorf("%+v: %+v, not %+v", x.call, got, x.want)
		}
	}
}

func get(r int, i int64, v api.Val) row { return row{call{name: "Get", r: r, i: i}, answer{v: v}} }
func size(r int, n int64) row           { return row{call{name: "Size", r: r}, answer{n: n}} }
func look(r int, key, n int64) row      { return row{call{name: "Look", r: r, i: key}, answer{n: n}} }
func key(r int, i, n int64) row         { return row{call{name: "Key", r: r, i: i}, answer{n: n}} }
func set(r int, i int64, v api.Val, how int) row {
	return row{call{name: "Set", r: r, i: i, v: v}, answer{how: how}}
}
func put(r int, k, n int64, how int) row {
	return row{call{name: "Put", r: r, i: k, n: n}, answer{how: how}}
}

// no is a call of object r that is refused.
func no(name string, r int, i int64, how int) row {
	return row{call{name: name, r: r, i: i, n: 5, v: num(5)}, answer{how: how}}
}

// The chapter's example.
func TestExample(t *testing.T) {
	m := heap.New(1000)
	made(t, 1)(m.Slice(2, false))
	took(t, m, 24, 1)
	made(t, 2)(m.Slice(1, true))
	took(t, m, 24, 1)
	made(t, 3)(m.Table(false))
	took(t, m, 32, 2)
	asked(t, m, put(3, 7, 1, api.Done))
	took(t, m, 48, 2)
}

// P10.1: what fits into a heap, of all limits that matter: an object of so many bytes, and none of 8 more.
func TestNew(t *testing.T) {
	l := make([]api.Val, api.MaxHeap/8)
	for _, x := range []struct{ limit, fits int }{
		{math.MinInt, 0}, {-8, 0}, {-1, 0}, {0, 0}, {1, 0}, {7, 0}, {8, 8}, {9, 8}, {15, 8}, {16, 16}, {1000, 1000},
		{api.MaxHeap - 1, api.MaxHeap - 8}, {api.MaxHeap, api.MaxHeap}, {api.MaxHeap + 1, api.MaxHeap},
		{api.MaxHeap + 8, api.MaxHeap}, {2 * api.MaxHeap, api.MaxHeap}, {math.MaxInt, api.MaxHeap},
	} {
		m := heap.New(x.limit)
		took(t, m, 0, 0)
		asked(t, m, no("Size", 1, 0, api.Bad))
		refused(t, api.NoRoom)(m.Object(l[:x.fits/8], false))
		took(t, m, 0, 0)
		if x.fits > 0 {
			made(t, 1)(m.Object(l[:x.fits/8-1], false))
			took(t, m, x.fits, 1)
		}
		refused(t, api.NoRoom)(m.Object(nil, false))
		refused(t, api.NoRoom)(m.Slice(0, false))
		refused(t, api.NoRoom)(m.Table(false))
		made(t, 1+min(x.fits, 1))(m.Object(make([]api.Val, 9), true))
	}
	if api.MaxHeap != 16777216 {
		t.Error(api.MaxHeap)
	}
}

// P10.1: there is one frame at first, which does not go; how many there are.
func TestFrames(t *testing.T) {
	m := heap.New(0)
	leave := func(want bool) {
		t.Helper()
		if m.Leave() != want {
			t.Error("Leave is not", want)
		}
	}
	enter := func(want int) {
		t.Helper()
		if n := m.Enter(); n != want {
			t.Error("Enter:", n, "not", want)
		}
	}
	leave(false)
	leave(false)
	enter(2)
	enter(3)
	leave(true)
	enter(3)
	leave(true)
	leave(true)
	leave(false)
	enter(2)
	leave(true)
	leave(false)
	took(t, m, 0, 0)
}

// P10.1: what was made on the stack goes with the frame that was the last one then, and does not come again when there are as many frames; what was made on the heap stays.
func TestLeave(t *testing.T) {
	m := heap.New(1000)
	made(t, 1)(m.Object([]api.Val{num(1)}, true))
	m.Leave() // refused: the one frame, with what is on it, is still there
	m.Enter()
	made(t, 2)(m.Object([]api.Val{num(2)}, true))
	made(t, 3)(m.Object([]api.Val{num(3)}, false))
	m.Enter()
	made(t, 4)(m.Object([]api.Val{num(4)}, true))
	made(t, 5)(m.Table(false))
	asked(t, m, put(5, 1, 2, api.Done), get(1, 0, num(1)), get(2, 0, num(2)), get(3, 0, num(3)), get(4, 0, num(4)))
	m.Leave()
	fourth := []row{no("Get", 4, 0, api.Stale), no("Set", 4, 0, api.Stale), no("Size", 4, 0, api.Stale)}
	asked(t, m, fourth...)
	asked(t, m, get(1, 0, num(1)), get(2, 0, num(2)), get(3, 0, num(3)), look(5, 1, 2))
	// The second frame is the last one once more: what is made now goes with it.
	made(t, 6)(m.Object([]api.Val{num(6)}, true))
	m.Enter()
	asked(t, m, fourth...)
	made(t, 7)(m.Table(true))
	asked(t, m, get(6, 0, num(6)), put(7, 1, 2, api.Done), put(5, 3, 4, api.Done), set(2, 0, num(9), api.Done))
	m.Leave()
	for _, name := range []string{"Put", "Look", "Key", "Size"} {
		asked(t, m, no(name, 7, 0, api.Stale))
	}
	asked(t, m, get(2, 0, num(9)), get(6, 0, num(6)), key(5, 1, 3))
	m.Leave()
	asked(t, m, no("Get", 2, 0, api.Stale), no("Get", 6, 0, api.Stale), get(1, 0, num(1)), get(3, 0, num(3)), size(5, 2))
	m.Leave()
	asked(t, m, set(1, 0, num(8), api.Done), get(1, 0, num(8)))
	took(t, m, 16+8+16+16, 2)
}

// P10.1: of very many frames each has its own.
func TestManyFrames(t *testing.T) {
	const many = 1 << 16
	m := heap.New(0)
	for n := range many {
		made(t, n+1)(m.Object([]api.Val{num(int64(n))}, true))
		if m.Enter() != n+2 {
			t.Fatal(n)
		}
	}
	there := func(least, most int) {
		t.Helper()
		for n := least; n < most; n++ {
			if v, how := m.Get(n+1, 0); v != num(int64(n)) || how != api.Done {
				t.Fatal(n, v, how)
			}
		}
	}
	gone := func(least, most int) {
		t.Helper()
		for n := least; n < most; n++ {
			if v, how := m.Get(n+1, 0); v != num(0) || how != api.Stale {
				t.Fatal(n, v, how)
			}
		}
	}
	there(0, many)
	for range many / 2 {
		m.Leave()
	}
	// many/2 + 1 frames are left, of which the last one has object many/2 + 1.
	there(0, many/2+1)
	gone(many/2+1, many)
	for range many / 2 {
		m.Enter()
	}
	there(0, many/2+1)
	gone(many/2+1, many)
	for m.Leave() {
	}
	there(0, 1)
	gone(1, many)
}

// P10.2: numbers from 1 on, through all that makes one, wherever it lies; what is refused has none.
func TestNumbers(t *testing.T) {
	m := heap.New(8 + 8 + 8 + 8)
	made(t, 1)(m.Object(nil, false))
	refused(t, api.NoRoom)(m.Object(make([]api.Val, 3), false))
	made(t, 2)(m.Slice(1, true))
	refused(t, api.Failed)(m.Slice(-1, true))
	refused(t, api.Failed)(m.Slice(1025, false))
	made(t, 3)(m.Table(false))
	m.Enter()
	made(t, 4)(m.Table(true))
	m.Leave()
	made(t, 5)(m.Slice(1, false))
	refused(t, api.NoRoom)(m.Table(false))
	refused(t, api.NoRoom)(m.Slice(0, false))
	refused(t, api.NoRoom)(m.Object(nil, false))
	made(t, 6)(m.Object(nil, true))
	took(t, m, 32, 3)
}

// P10.2: what an object has when it is made.
func TestMade(t *testing.T) {
	m := heap.New(1000)
	for at, stack := range []bool{false, true} {
		r := 5 * at
		all := []api.Val{num(-3), str("ab"), ref(9), {N: 1, S: "c", R: 2}}
		made(t, r+1)(m.Object(all, stack))
		made(t, r+2)(m.Object(nil, stack))
		made(t, r+3)(m.Slice(2, stack))
		made(t, r+4)(m.Slice(0, stack))
		made(t, r+5)(m.Table(stack))
		for i, v := range all {
			asked(t, m, get(r+1, int64(i), v))
		}
		asked(t, m, size(r+1, 4), size(r+2, 0), size(r+3, 2), size(r+4, 0), size(r+5, 0))
		asked(t, m, get(r+3, 0, num(0)), get(r+3, 1, num(0)), no("Get", r+3, 2, api.Failed), no("Get", r+2, 0, api.Failed), no("Get", r+4, 0, api.Failed), no("Key", r+5, 0, api.Failed), look(r+5, 0, 0))
	}
}

// P10.2: what is taken of the heap, to the byte: it is made at just that limit, and not with one byte less; on the stack it takes nothing.
func TestTaken(t *testing.T) {
	for _, x := range []struct {
		call
		bytes int
	}{
		{call{name: "Object"}, 8},
		{call{name: "Object", l: []api.Val{str("a longer text takes no more")}}, 16},
		{call{name: "Object", l: make([]api.Val, 8)}, 72},
		{call{name: "Object", l: make([]api.Val, 5000)}, 40008},
		{call{name: "Slice"}, 8},
		{call{name: "Slice", n: 1}, 16},
		{call{name: "Slice", n: 128}, 1032},
		{call{name: "Slice", n: api.MaxRoom}, 8200},
		{call{name: "Table"}, 8},
	} {
		for _, behind := range []int{0, 8} {
			m := heap.New(behind + x.bytes)
			short := heap.New(behind + x.bytes - 1)
			if behind > 0 {
				m.Table(false)
				short.Table(false)
			}
			taken := behind / 8
			x.stack = true
			asked(t, short, row{x.call, answer{n: int64(1 + taken)}})
			took(t, short, behind, taken)
			x.stack = false
			asked(t, m, row{x.call, answer{n: int64(1 + taken)}})
			took(t, m, behind+x.bytes, taken+1)
			asked(t, short, row{x.call, answer{how: api.NoRoom}})
			took(t, short, behind, taken)
		}
	}
}

// P10.2: how many numbers a slice may have, and that this is asked ahead of whether there is room.
func TestRoom(t *testing.T) {
	for _, stack := range []bool{false, true} {
		for _, limit := range []int{0, api.MaxHeap} {
			m := heap.New(limit)
			for _, n := range []int64{math.MinInt64, -1024, -1, 1025, 1 << 32, math.MaxInt64} {
				refused(t, api.Failed)(m.Slice(n, stack))
			}
			took(t, m, 0, 0)
			if limit == 0 && !stack {
				refused(t, api.NoRoom)(m.Slice(0, stack))
				refused(t, api.NoRoom)(m.Slice(1024, stack))
				continue
			}
			made(t, 1)(m.Slice(0, stack))
			made(t, 2)(m.Slice(1024, stack))
			asked(t, m, size(1, 0), size(2, 1024), get(2, 1023, num(0)), no("Get", 2, 1024, api.Failed))
		}
	}
}

// P10.3: of an object that is not there, of one that is not such as the call is about, of one that is gone, of a place that is not there: and which comes first.
func TestRefused(t *testing.T) {
	m := heap.New(1000)
	made(t, 1)(m.Object([]api.Val{num(1)}, false))
	made(t, 2)(m.Slice(1, true))
	made(t, 3)(m.Table(true))
	m.Enter()
	made(t, 4)(m.Object([]api.Val{num(1)}, true))
	made(t, 5)(m.Slice(1, true))
	made(t, 6)(m.Table(true))
	asked(t, m, put(3, 1, 1, api.Done), put(6, 1, 1, api.Done))
	m.Leave()
	none := []int{0, -1, 7, 8, math.MinInt, math.MaxInt, 1<<32 + 1}
	places := []int64{0, 1, -1, math.MinInt64, math.MaxInt64, 1 << 32}
	for _, i := range places {
		for _, name := range []string{"Get", "Set", "Size", "Put", "Look", "Key"} {
			for _, r := range none {
				asked(t, m, no(name, r, i, api.Bad))
			}
		}
		for _, name := range []string{"Get", "Set"} {
			asked(t, m, no(name, 3, i, api.Bad), no(name, 6, i, api.Bad), no(name, 4, i, api.Stale), no(name, 5, i, api.Stale))
			if i != 0 {
				asked(t, m, no(name, 1, i, api.Failed), no(name, 2, i, api.Failed))
			}
		}
		for _, name := range []string{"Put", "Look", "Key"} {
			asked(t, m, no(name, 1, i, api.Bad), no(name, 2, i, api.Bad), no(name, 4, i, api.Bad), no(name, 5, i, api.Bad), no(name, 6, i, api.Stale))
		}
		if i != 0 {
			asked(t, m, no("Key", 3, i, api.Failed))
		}
	}
	asked(t, m, no("Size", 4, 0, api.Stale), no("Size", 5, 0, api.Stale), no("Size", 6, 0, api.Stale))
	// Nothing is changed by all that.
	asked(t, m, get(1, 0, num(1)), size(1, 1), get(2, 0, num(0)), size(2, 1), key(3, 0, 1), look(3, 1, 1), size(3, 1))
	took(t, m, 16, 1)
}

// P10.3: a value that is set is the whole of what was handed over, in objects and in slices, and as often as it is set.
func TestSet(t *testing.T) {
	for _, stack := range []bool{false, true} {
		m := heap.New(10000)
		made(t, 1)(m.Object(make([]api.Val, 3), stack))
		made(t, 2)(m.Slice(3, stack))
		made(t, 3)(m.Slice(1024, stack))
		for _, r := range []int{1, 2} {
			whole := api.Val{N: math.MinInt64, S: "\x00a", R: -7}
			asked(t, m, set(r, 2, num(4), api.Done), get(r, 2, num(4)), get(r, 1, num(0)))
			asked(t, m, set(r, 0, whole, api.Done), get(r, 0, whole), get(r, 1, num(0)), get(r, 2, num(4)))
			asked(t, m, set(r, 0, str("b"), api.Done), get(r, 0, str("b")), set(r, 0, num(0), api.Done), get(r, 0, num(0)))
			asked(t, m, set(r, 3, num(1), api.Failed), set(r, -1, num(1), api.Failed), size(r, 3))
		}
		asked(t, m, set(3, 1023, num(5), api.Done), get(3, 1023, num(5)), get(3, 1022, num(0)), get(3, 0, num(0)), set(3, 1024, num(1), api.Failed))
	}
}

// P10.3: keys stand as they came; one that is put again stays where it is, and keeps what was put last.
func TestTable(t *testing.T) {
	for _, stack := range []bool{false, true} {
		m := heap.New(1000)
		made(t, 1)(m.Table(stack))
		asked(t, m, put(1, 5, 50, api.Done), put(1, -1, 10, api.Done), put(1, math.MaxInt64, 0, api.Done), put(1, 0, 7, api.Done))
		keys := []row{key(1, 0, 5), key(1, 1, -1), key(1, 2, math.MaxInt64), key(1, 3, 0), no("Key", 1, 4, api.Failed), no("Key", 1, -1, api.Failed), size(1, 4)}
		asked(t, m, keys...)
		asked(t, m, look(1, 5, 50), look(1, -1, 10), look(1, math.MaxInt64, 0), look(1, 0, 7), look(1, 6, 0), look(1, math.MinInt64, 0))
		// What was only looked for is no key, and what is 0 is one.
		asked(t, m, keys...)
		asked(t, m, put(1, 5, -50, api.Done), put(1, 0, 0, api.Done), look(1, 5, -50), look(1, 0, 0), look(1, -1, 10))
		asked(t, m, keys...)
		asked(t, m, put(1, 6, 1, api.Done), key(1, 4, 6), size(1, 5))
	}
}

// P10.3: a key takes 16 bytes of the heap when it comes, and none when it is put again; on the stack none at all.
func TestPutAtTheLimit(t *testing.T) {
	for _, more := range []int{0, 1, 15} {
		m := heap.New(8 + 16 + 16 + more)
		made(t, 1)(m.Table(false))
		made(t, 2)(m.Table(true))
		asked(t, m, put(1, 3, 1, api.Done))
		took(t, m, 24, 1)
		asked(t, m, put(1, 3, 2, api.Done), put(2, 3, 5, api.Done))
		took(t, m, 24, 1)
		asked(t, m, put(1, 0, 3, api.Done))
		took(t, m, 40, 1)
		asked(t, m, put(1, 4, 4, api.NoRoom), look(1, 4, 0), size(1, 2), no("Key", 1, 2, api.Failed))
		asked(t, m, put(1, 3, 6, api.Done), put(1, 0, 0, api.Done), look(1, 3, 6), look(1, 0, 0))
		for n := range int64(100) {
			asked(t, m, put(2, n, n, api.Done))
		}
		asked(t, m, size(2, 100), key(2, 0, 3), key(2, 1, 0), look(2, 3, 3))
		took(t, m, 40, 1)
	}
}

// P10.4: what is taken is never given back, whatever goes; and what asks, or sets, takes nothing.
func TestUsedAndMakes(t *testing.T) {
	m := heap.New(1000)
	m.Enter()
	made(t, 1)(m.Object([]api.Val{num(1), num(2)}, false))
	took(t, m, 24, 1)
	made(t, 2)(m.Object([]api.Val{num(1), num(2)}, true))
	made(t, 3)(m.Table(true))
	made(t, 4)(m.Slice(5, true))
	took(t, m, 24, 1)
	asked(t, m, set(1, 0, num(4), api.Done), set(2, 0, num(4), api.Done), set(4, 4, num(4), api.Done), put(3, 1, 1, api.Done), get(1, 0, num(4)), size(1, 2), look(3, 1, 1), key(3, 0, 1))
	took(t, m, 24, 1)
	made(t, 5)(m.Slice(5, false))
	took(t, m, 72, 2)
	made(t, 6)(m.Table(false))
	asked(t, m, put(6, 1, 1, api.Done))
	took(t, m, 96, 3)
	m.Leave()
	took(t, m, 96, 3)
	refused(t, api.NoRoom)(m.Slice(1000, false))
	refused(t, api.Failed)(m.Slice(2000, false))
	took(t, m, 96, 3)
}

// What is handed over is neither changed nor kept, its spare room included.
func TestHandedOver(t *testing.T) {
	for _, stack := range []bool{false, true} {
		m := heap.New(1000)
		behind := []api.Val{num(1), str("b"), ref(3), num(4)}
		l := behind[:2]
		made(t, 1)(m.Object(l, stack))
		made(t, 2)(m.Object(l, stack))
		l[0], l[1] = num(8), num(9)
		asked(t, m, get(1, 0, num(1)), get(1, 1, str("b")), get(2, 0, num(1)))
		asked(t, m, set(1, 0, num(5), api.Done), set(1, 1, num(6), api.Done), set(1, 2, num(7), api.Failed))
		if !slices.Equal(behind, []api.Val{num(8), num(9), ref(3), num(4)}) {
			t.Error("what was handed over is changed:", behind)
		}
		asked(t, m, get(2, 0, num(1)), get(2, 1, str("b")))
	}
}

// grown is by how much memory goes up while work is done, of what work answers.
func grown(work func() *heap.Mem) uint64 {
	var before, after runtime.MemStats
	runtime.GC()
	runtime.ReadMemStats(&before)
	m := work()
	runtime.GC()
	runtime.ReadMemStats(&after)
	runtime.KeepAlive(m)
	return max(after.HeapAlloc, before.HeapAlloc) - before.HeapAlloc
}

// What is gone can't be asked for: it is not kept.
func TestGoneIsNotKept(t *testing.T) {
	l := make([]api.Val, 1<<14)
	bytes := grown(func() *heap.Mem {
		m := heap.New(0)
		for range 400 {
			m.Enter()
			r, _ := m.Object(l, true)
			m.Table(true)
			for n := range int64(100) {
				m.Put(r+1, n, n)
			}
			m.Leave()
		}
		return m
	})
	if bytes > 1<<22 {
		t.Error("bytes that are kept:", bytes)
	}
}

// Nothing bounds the slices on the stack: those that are never set, or hardly, take hardly any memory.
func TestManySlices(t *testing.T) {
	const many = 1 << 17
	bytes := grown(func() *heap.Mem {
		m := heap.New(0)
		for n := range many {
			made(t, n+1)(m.Slice(api.MaxRoom, true))
			if n%2 == 0 {
				m.Set(n+1, api.MaxRoom-1, num(int64(n)))
			}
		}
		asked(t, m, get(1, 1023, num(0)), get(2, 1023, num(0)), get(many-1, 1023, num(many-2)), get(many, 1023, num(0)), size(many, 1024))
		return m
	})
	if bytes > many*1024 {
		t.Error("bytes that are kept:", bytes)
	}
}
