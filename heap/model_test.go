package heap_test

import (
	"slices"
	"testing"

	"hallmark/api"
	"hallmark/heap"
)

// memory is what a memory and its model can do.
type memory interface {
	Enter() int
	Leave() bool
	Object(l []api.Val, stack bool) (int, int)
	Slice(n int64, stack bool) (int, int)
	Table(stack bool) (int, int)
	Get(r int, i int64) (api.Val, int)
	Set(r int, i int64, v api.Val) int
	Size(r int) (int64, int)
	Put(r int, key, n int64) int
	Look(r int, key int64) (int64, int)
	Key(r int, i int64) (int64, int)
	Used() int
	Makes() int
}

// thing is an object, a slice or a table, in the chapter's words.
type thing struct {
	isTable bool
	stack   bool
	gone    bool
	values  []api.Val
	entries []entry
}

// entry is a key of a table, and what lies under it.
type entry struct{ key, n int64 }

// model is a memory in the chapter's words: all values are there from the start, what goes with a frame is told so, and keys are found by going through them.
type model struct {
	limit  int
	taken  []int
	things []*thing
	frames [][]*thing
}

func newModel(limit int) *model {
	if limit < 0 {
		limit = 0
	}
	if limit > 16777216 {
		limit = 16777216
	}
	return &model{limit: limit, frames: make([][]*thing, 1)}
}

func (m *model) Enter() int {
	m.frames = append(m.frames, nil)
	return len(m.frames)
}

func (m *model) Leave() bool {
	if len(m.frames) == 1 {
		return false
	}
	for _, x := range m.frames[len(m.frames)-1] {
		x.gone = true
	}
	m.frames = m.frames[:len(m.frames)-1]
	return true
}

func (m *model) room(bytes int) bool { return m.Used()+bytes <= m.limit }

func (m *model) made(x *thing) (int, int) {
	bytes := 8 + 8*len(x.values)
	if !x.stack && !m.room(bytes) {
		return 0, api.NoRoom
	}
	if x.stack {
		m.frames[len(m.frames)-1] = append(m.frames[len(m.frames)-1], x)
	} else {
		m.taken = append(m.taken, bytes)
	}
	m.things = append(m.things, x)
	return len(m.things), api.Done
}

func (m *model) Object(l []api.Val, stack bool) (int, int) {
	return m.made(&thing{stack: stack, values: append([]api.Val{}, l...)})
}

func (m *model) Slice(n int64, stack bool) (int, int) {
	if n < 0 || n > 1024 {
		return 0, api.Failed
	}
	return m.made(&thing{stack: stack, values: make([]api.Val, n)})
}

func (m *model) Table(stack bool) (int, int) {
	return m.made(&thing{stack: stack, isTable: true})
}

// of is thing r, of a call that is about tables, about others, or about both.
func (m *model) of(r int, table, other bool) (*thing, int) {
	if r <= 0 || r > len(m.things) {
		return nil, api.Bad
	}
	x := m.things[r-1]
	if x.isTable && !table || !x.isTable && !other {
		return nil, api.Bad
	}
	if x.gone {
		return nil, api.Stale
	}
	return x, api.Done
}

func (m *model) Get(r int, i int64) (api.Val, int) {
	x, how := m.of(r, false, true)
	if how != api.Done {
		return api.Val{}, how
	}
	if i < 0 || i >= int64(len(x.values)) {
		return api.Val{}, api.Failed
	}
	return x.values[i], api.Done
}

func (m *model) Set(r int, i int64, v api.Val) int {
	x, how := m.of(r, false, true)
	if how != api.Done {
		return how
	}
	if i < 0 || i >= int64(len(x.values)) {
		return api.Failed
	}
	x.values[i] = v
	return api.Done
}

func (m *model) Size(r int) (int64, int) {
	x, how := m.of(r, true, true)
	if how != api.Done {
		return 0, how
	}
	return int64(len(x.values) + len(x.entries)), api.Done
}

func (m *model) Put(r int, key, n int64) int {
	x, how := m.of(r, true, false)
	if how != api.Done {
		return how
	}
	for at := range x.entries {
		if x.entries[at].key == key {
			x.entries[at].n = n
			return api.Done
		}
	}
	if !x.stack {
		if !m.room(16) {
			return api.NoRoom
		}
		m.taken = append(m.taken, 16)
	}
	x.entries = append(x.entries, entry{key, n})
	return api.Done
}

func (m *model) Look(r int, key int64) (int64, int) {
	x, how := m.of(r, true, false)
	if how != api.Done {
		return 0, how
	}
	for _, e := range x.entries {
		if e.key == key {
			return e.n, api.Done
		}
	}
	return 0, api.Done
}

func (m *model) Key(r int, i int64) (int64, int) {
	x, how := m.of(r, true, false)
	if how != api.Done {
		return 0, how
	}
	if i < 0 || i >= int64(len(x.entries)) {
		return 0, api.Failed
	}
	return x.entries[i].key, api.Done
}

func (m *model) Used() int {
	n := 0
	for _, bytes := range m.taken {
		n += bytes
	}
	return n
}

func (m *model) Makes() int {
	n := 0
	for _, x := range m.things {
		if !x.stack {
			n++
		}
	}
	return n
}

// call is a call of a memory, by its name; what it is not handed plays no part.
type call struct {
	name  string
	r     int
	i, n  int64
	l     []api.Val
	v     api.Val
	stack bool
}

// answer is all that a call answers.
type answer struct {
	v    api.Val
	n    int64
	how  int
	left bool
}

func (c call) on(m memory) answer {
	var a answer
	r := 0
	switch c.name {
	case "Enter":
		r = m.Enter()
	case "Leave":
		a.left = m.Leave()
	case "Object":
		r, a.how = m.Object(c.l, c.stack)
	case "Slice":
		r, a.how = m.Slice(c.n, c.stack)
	case "Table":
		r, a.how = m.Table(c.stack)
	case "Get":
		a.v, a.how = m.Get(c.r, c.i)
	case "Set":
		a.how = m.Set(c.r, c.i, c.v)
	case "Size":
		a.n, a.how = m.Size(c.r)
	case "Put":
		a.how = m.Put(c.r, c.i, c.n)
	case "Look":
		a.n, a.how = m.Look(c.r, c.i)
	case "Key":
		a.n, a.how = m.Key(c.r, c.i)
	default:
		panic(c.name)
	}
	a.n += int64(r)
	return a
}

// content is all that can be asked of one object, at places from just below the first one to just behind the last one.
func content(m memory, r int, keys []int64) []answer {
	l := []answer{call{name: "Size", r: r}.on(m)}
	for i := int64(-1); i <= l[0].n; i++ {
		l = append(l, call{name: "Get", r: r, i: i}.on(m), call{name: "Key", r: r, i: i}.on(m))
	}
	for _, key := range keys {
		l = append(l, call{name: "Look", r: r, i: key}.on(m))
	}
	return l
}

// whole is all that can be asked of a memory, of objects from 0 to last: one list an object.
func whole(m memory, last int, keys []int64) [][]answer {
	var l [][]answer
	for r := 0; r <= last; r++ {
		l = append(l, content(m, r, keys))
	}
	return append(l, []answer{{n: int64(m.Used())}, {n: int64(m.Makes())}})
}

// alike tells whether two memories' contents are the same ones.
func alike(a, b [][]answer) bool { return slices.EqualFunc(a, b, slices.Equal[[]answer]) }

// twin is a memory beside its model.
type twin struct {
	*testing.T
	real  *heap.Mem
	plain *model
}

func newTwin(t *testing.T, limit int) twin { return twin{t, heap.New(limit), newModel(limit)} }

// do calls both, and asks that they answer alike.
func (w twin) do(c call) answer {
	w.Helper()
	want := c.on(w.plain)
	if got := c.on(w.real); got != want {
		w.Fatalf("%+v: %+v, not %+v", c, got, want)
	}
	if w.real.Used() != w.plain.Used() || w.real.Makes() != w.plain.Makes() {
		w.Fatalf("%+v: Used %d, Makes %d, not %d, %d", c, w.real.Used(), w.real.Makes(), w.plain.Used(), w.plain.Makes())
	}
	return want
}

// settled asks that all that can be asked of both is alike.
func (w twin) settled(keys []int64) {
	w.Helper()
	last := len(w.plain.things) + 1
	if !alike(whole(w.real, last, keys), whole(w.plain, last, keys)) {
		w.Fatal("what lies in memory is not what the model has")
	}
}
