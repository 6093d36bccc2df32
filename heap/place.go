package heap

import (
	"sort"

	"hallmark/api"
)

// frame is a frame that was entered, with what goes with it. No later one has its number again.
type frame struct {
	number  int
	objects []*object
}

// add gives a new object its place, if there is room, and its number.
func (m *Mem) add(o *object, stack bool) (int, int) {
	if stack {
		m.lay(o)
	} else if m.take(8 + 8*int(o.size())) {
		m.makes++
	} else {
		return 0, api.NoRoom
	}
	m.objects = append(m.objects, o)
	return len(m.objects), api.Done
}

// lay has a new object go with the last frame.
func (m *Mem) lay(o *object) {
	if last := len(m.frames) - 1; last >= 0 {
		f := &m.frames[last]
		o.frame = f.number
		f.objects = append(f.objects, o)
	}
}

// take takes bytes of the heap, if they are there.
func (m *Mem) take(bytes int) bool {
	if bytes > m.limit-m.used {
		return false
	}
	m.used += bytes
	return true
}

// object is object r, also one that is gone; nil, if there is none.
func (m *Mem) object(r int) *object {
	if r < 1 || r > len(m.objects) {
		return nil
	}
	return m.objects[r-1]
}

// gone tells whether the frame of an object is gone.
func (m *Mem) gone(o *object) bool {
	if o.frame == 0 {
		return false
	}
	at := sort.Search(len(m.frames), func(at int) bool { return m.frames[at].number >= o.frame })
	return at == len(m.frames) || m.frames[at].number != o.frame
}

// row are the values of object r, among them one at i; another answer than Done, if they are not to be had.
func (m *Mem) row(r int, i int64) (*row, int) {
	o := m.object(r)
	switch {
	case o == nil || o.row == nil:
		return nil, api.Bad
	case m.gone(o):
		return nil, api.Stale
	case i < 0 || i >= o.row.size:
		return nil, api.Failed
	}
	return o.row, api.Done
}

// table is what table r has; another answer than Done, if that is not to be had.
func (m *Mem) table(r int) (*table, int) {
	o := m.object(r)
	switch {
	case o == nil || o.table == nil:
		return nil, api.Bad
	case m.gone(o):
		return nil, api.Stale
	}
	return o.table, api.Done
}
