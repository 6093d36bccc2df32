package heap_test

import (
	"math"
	"math/rand"
	"slices"
	"testing"

	"hallmark/api"
	"hallmark/heap"
)

// keysDrawn are the keys that are drawn: few, so that they come again.
var keysDrawn = []int64{-2, -1, 0, 1, 2, 3, 1 << 32, math.MinInt64, math.MaxInt64}

// drawer draws calls.
type drawer struct {
	*rand.Rand
	made int // how many objects there are
}

func (d *drawer) val() api.Val {
	texts := []string{"", "a", "b\x00"}
	return api.Val{N: d.Int63n(9) - 4, S: texts[d.Intn(len(texts))], R: d.Intn(4)}
}

// object is the number of an object, most often of one that is there, and of a late one.
func (d *drawer) object() int {
	switch d.Intn(12) {
	case 0:
		return []int{0, -1, d.made + 1, d.made + 2, math.MinInt, math.MaxInt}[d.Intn(6)]
	case 1, 2, 3:
		return 1 + d.Intn(d.made+1)
	}
	return max(1, d.made-d.Intn(6))
}

// place is where a value, or a key, may stand.
func (d *drawer) place() int64 {
	switch d.Intn(12) {
	case 0:
		return []int64{-1, math.MinInt64, math.MaxInt64, 1 << 32}[d.Intn(4)]
	case 1:
		return d.Int63n(1030)
	}
	return d.Int63n(5)
}

// room is how many numbers a slice may have.
func (d *drawer) room() int64 {
	switch d.Intn(12) {
	case 0:
		return []int64{-1, math.MinInt64, math.MaxInt64, api.MaxRoom + 1}[d.Intn(4)]
	case 1:
		return api.MaxRoom
	}
	return d.Int63n(6)
}

func (d *drawer) call() call {
	names := []string{
		"Enter", "Leave", "Object", "Object", "Slice", "Slice", "Table", "Table",
		"Get", "Get", "Set", "Set", "Size", "Put", "Put", "Put", "Look", "Key",
	}
	c := call{name: names[d.Intn(len(names))], r: d.object(), v: d.val(), stack: d.Intn(2) == 0}
	switch c.name {
	case "Object":
		for range d.Intn(4) {
			c.l = append(c.l, d.val())
		}
	case "Slice":
		c.n = d.room()
	case "Get", "Set", "Key":
		c.i = d.place()
	case "Put", "Look":
		c.i, c.n = keysDrawn[d.Intn(len(keysDrawn))], d.Int63n(5)-2
	}
	return c
}

// do draws a call, and does it.
func (d *drawer) do(w twin) (call, answer) {
	w.Helper()
	c := d.call()
	a := w.do(c)
	if c.makes() && a.how == api.Done {
		d.made++
	}
	return c, a
}

// makes tells whether a call makes an object, if it is not refused.
func (c call) makes() bool { return slices.Contains([]string{"Object", "Slice", "Table"}, c.name) }

// asks tells whether a call is about an object that is there.
func (c call) asks() bool { return !c.makes() && c.name != "Enter" && c.name != "Leave" }

// limitDrawn is small, most often, so that there is no room any more.
func limitDrawn(r *rand.Rand) int {
	return []int{-1, 0, 100, 300, 1000, 9000, 100000, api.MaxHeap, math.MaxInt}[r.Intn(9)]
}

// P10.1 to P10.4: whatever is called, the answers are those of the chapter's words, and so is all that can be asked then.
func TestDrawn(t *testing.T) {
	r := rand.New(rand.NewSource(10))
	tally := map[string]map[int]int{}
	for range 600 {
		w, d := newTwin(t, limitDrawn(r)), &drawer{Rand: r}
		for range 20 + r.Intn(120) {
			c, a := d.do(w)
			if tally[c.name] == nil {
				tally[c.name] = map[int]int{}
			}
			tally[c.name][a.how]++
		}
		w.settled(keysDrawn)
	}
	for name, want := range map[string][]int{
		"Enter": {api.Done}, "Leave": {api.Done},
		"Object": {api.Done, api.NoRoom}, "Slice": {api.Done, api.NoRoom, api.Failed}, "Table": {api.Done, api.NoRoom},
		"Get": {api.Done, api.Failed, api.Bad, api.Stale}, "Set": {api.Done, api.Failed, api.Bad, api.Stale}, "Size": {api.Done, api.Bad, api.Stale},
		"Put": {api.Done, api.NoRoom, api.Bad, api.Stale}, "Look": {api.Done, api.Bad, api.Stale}, "Key": {api.Done, api.Failed, api.Bad, api.Stale},
	} {
		for _, how := range want {
			if tally[name][how] < 50 {
				t.Error("too few of a kind:", name, how, tally[name])
			}
		}
		if len(tally[name]) != len(want) {
			t.Error("answers of another kind:", name, tally[name])
		}
	}
}

// P10.3: with another answer than Done nothing is changed.
func TestDrawnRefused(t *testing.T) {
	r := rand.New(rand.NewSource(103))
	refused := 0
	for range 150 {
		w, d := newTwin(t, limitDrawn(r)), &drawer{Rand: r}
		for range 60 {
			before := whole(w.real, d.made+1, keysDrawn)
			c, a := d.do(w)
			if a.how == api.Done {
				continue
			}
			refused++
			if a != (answer{how: a.how}) {
				t.Fatalf("%+v: %+v: values beside an answer that is not Done", c, a)
			}
			if !alike(whole(w.real, d.made+1, keysDrawn), before) {
				t.Fatalf("%+v: refused, and something is changed", c)
			}
		}
	}
	if refused < 1000 {
		t.Error("too few that are refused:", refused)
	}
}

// P10.5: what is set of one object, or put, changes no other one.
func TestApart(t *testing.T) {
	r := rand.New(rand.NewSource(105))
	changed := 0
	for range 240 {
		w, d := newTwin(t, limitDrawn(r)), &drawer{Rand: r}
		for range 60 {
			before := whole(w.real, d.made, keysDrawn)
			c, _ := d.do(w)
			if c.name == "Leave" {
				continue
			}
			after := whole(w.real, len(before)-3, keysDrawn)
			for at := range len(before) - 2 {
				same := slices.Equal(after[at], before[at])
				if !same && (at != c.r || c.name != "Set" && c.name != "Put") {
					t.Fatalf("%+v changes object %d", c, at)
				}
				if !same {
					changed++
				}
			}
		}
	}
	if changed < 500 {
		t.Error("too few that are changed:", changed)
	}
}

// P10.6: Used and Makes do not hang on what lies on the stack: another memory, on which all that is about the stack is not done at all, tells the same.
func TestHeapAlone(t *testing.T) {
	r := rand.New(rand.NewSource(106))
	stacked, heaped := 0, 0
	for range 400 {
		limit := limitDrawn(r)
		w, d := newTwin(t, limit), &drawer{Rand: r}
		alone := heap.New(limit)
		number := map[int]int{} // of what lies on the heap: its number in alone
		for range 20 + r.Intn(120) {
			c, a := d.do(w)
			there, known := number[c.r]
			switch {
			case c.makes() && !c.stack:
				b := c.on(alone)
				if b.how != a.how {
					t.Fatalf("%+v: %d beside what lies on the stack, %d without it", c, a.how, b.how)
				}
				if b.how == api.Done {
					number[d.made] = int(b.n)
					heaped++
				}
			case c.makes():
				stacked++
			case c.asks() && known:
				c.r = there
				if b := c.on(alone); b != a {
					t.Fatalf("%+v: %+v beside what lies on the stack, %+v without it", c, a, b)
				}
			}
			if w.real.Used() != alone.Used() || w.real.Makes() != alone.Makes() {
				t.Fatalf("%+v: Used %d, Makes %d beside what lies on the stack, %d, %d without it", c, w.real.Used(), w.real.Makes(), alone.Used(), alone.Makes())
			}
		}
	}
	if min(stacked, heaped) < 2000 {
		t.Error("too few of a kind:", stacked, heaped)
	}
}

// Two memories know nothing of one another.
func TestTwoMemories(t *testing.T) {
	r := rand.New(rand.NewSource(107))
	for range 100 {
		limit := limitDrawn(r)
		a, b := newTwin(t, limit), newTwin(t, limit)
		da, db := &drawer{Rand: r}, &drawer{Rand: r}
		for range 60 {
			da.do(a)
			db.do(b)
		}
		a.settled(keysDrawn)
		b.settled(keysDrawn)
	}
}
