package heap

import "hallmark/api"

// object is an object, a slice or a table. What is gone keeps its kind.
type object struct {
	frame int    // the number of the frame that it goes with; 0, if it never goes
	row   *row   // of an object or a slice
	table *table // of a table
}

// size is how many values, or keys, it has.
func (o *object) size() int64 {
	if o.table != nil {
		return int64(len(o.table.keys))
	}
	return o.row.size
}

// empty lets go of all that it has: nobody can ask for that any more.
func (o *object) empty() {
	if o.table != nil {
		*o.table = table{}
	} else {
		*o.row = row{}
	}
}

// row are the values of an object or a slice. A slice keeps only what was set: nothing but a run's fuel bounds how many of them it makes on the stack.
type row struct {
	size  int64
	given []api.Val         // the first ones
	set   map[int64]api.Val // of those behind, the ones that were set
}

// get is a value that is there.
func (l *row) get(i int64) api.Val {
	if i < int64(len(l.given)) {
		return l.given[i]
	}
	return l.set[i]
}

// put makes v a value that is there.
func (l *row) put(i int64, v api.Val) {
	if i < int64(len(l.given)) {
		l.given[i] = v
	} else {
		l.set[i] = v
	}
}

// table is what lies under keys, and the keys as they came.
type table struct {
	stack bool
	keys  []int64
	under map[int64]int64
}

// has tells whether there is such a key.
func (t *table) has(key int64) bool {
	_, there := t.under[key]
	return there
}

// put lays n under a key.
func (t *table) put(key, n int64) {
	if !t.has(key) {
		t.keys = append(t.keys, key)
	}
	t.under[key] = n
}
