package uses_test

import (
	"math/rand"
	"slices"

	"hallmark/api"
	"hallmark/cfg"
	"hallmark/dom"
)

// maker makes well made programs up, always the same ones. While a function is made, a value is named by its block and its place there.
type maker struct {
	*rand.Rand
	p     *api.Prog
	types [][]int  // of a function's values, block by block
	slots [][]slot // the places of a function's steps and ends at which a value is to be laid, block by block
	over  [][]bool
}

// slot is a place at which a value of a type is to be laid, that is seen behind so many values of its own block.
type slot struct {
	place  *int
	t, own int
}

// prog is a well made program of some functions, one of which tells nothing.
func (m *maker) prog() *api.Prog {
	m.p = &api.Prog{
		Classes: []api.Class{{Fields: to(api.TInt, api.TSlice)}},
		Funcs: []api.Func{
			fun(api.TInt, block(m.Intn(3), api.End{})),
			fun(none, api.Block{Params: to(api.TSlice, api.TInt, api.TInt)}),
			fun(m.Intn(api.TFace), api.Block{Params: m.someTypes()}),
		},
	}
	for n := range m.p.Funcs {
		m.body(&m.p.Funcs[n])
	}
	return m.p
}

// someTypes are types of which block 0 of each function makes values.
func (m *maker) someTypes() []int {
	l := make([]int, m.Intn(3))
	for at := range l {
		l[at] = m.Intn(api.TFace)
	}
	return l
}

// body makes the blocks of a function that has its parameters: the steps' kinds, then the values that steps and ends are of.
func (m *maker) body(f *api.Func) {
	m.ways(f, 1+m.Intn(9))
	m.types, m.slots = nil, make([][]slot, len(f.Blocks))
	for at := range f.Blocks {
		b := &f.Blocks[at]
		types := slices.Clone(b.Params)
		if at == 0 {
			b.Ops = []api.Op{num(), bit(), {K: api.OpText, S: "x"}, {K: api.OpMake, N: 2}, {K: api.OpTable}}
			types = append(types, api.TInt, api.TBool, api.TText, api.TSlice, api.TTable)
		}
		for range m.Intn(5) {
			o, comes := m.step()
			b.Ops = append(b.Ops, o)
			types = append(types, comes)
		}
		m.types = append(m.types, types)
	}
	for at := range f.Blocks {
		m.wants(f, at)
	}
	m.over = overs(*f)
	for at := range f.Blocks {
		for _, s := range m.slots[at] {
			*s.place = m.seen(*f, at, s)
		}
	}
}

// ways makes blocks, all of which are met: each one beside the first has one ahead of it that leads there. Then they are dealt anew.
func (m *maker) ways(f *api.Func, blocks int) {
	next := make([][]int, blocks)
	for n := 1; n < blocks; n++ {
		from := m.Intn(n)
		for len(next[from]) == 2 {
			from = m.Intn(n)
		}
		next[from] = append(next[from], n)
	}
	dealt := to(0)
	for _, n := range m.Perm(blocks - 1) {
		dealt = append(dealt, n+1)
	}
	l := make([]api.Block, blocks)
	for n := range l {
		for blocks > 1 && len(next[n]) < 2 && m.Intn(2) == 0 {
			next[n] = append(next[n], 1+m.Intn(blocks-1))
		}
		m.Shuffle(len(next[n]), func(a, b int) { next[n][a], next[n][b] = next[n][b], next[n][a] })
		b := api.Block{Params: m.someTypes(), End: api.End{K: api.EndRet + m.Intn(4)/3}}
		switch len(next[n]) {
		case 1:
			b.End = jump(dealt[next[n][0]])
		case 2:
			b.End = branch(0, dealt[next[n][0]], nil, dealt[next[n][1]], nil)
		}
		l[dealt[n]] = b
	}
	l[0].Params = f.Blocks[0].Params
	f.Blocks = l
}

// takes are the types of the values that are laid in a step's A, B, C, or in its L; some in fields that play no part.
func (m *maker) takes(o api.Op) []int {
	switch o.K {
	case api.OpArith, api.OpRoom:
		return to(api.TInt, api.TInt)
	case api.OpNot:
		return to(api.TBool)
	case api.OpCat, api.OpAlike:
		return to(api.TText, api.TText)
	case api.OpSize, api.OpAt, api.OpPut:
		return to(api.TSlice, api.TInt, api.TInt)
	case api.OpEnter, api.OpLook, api.OpCount:
		return to(api.TTable, api.TInt, api.TInt)
	case api.OpTell:
		return to(int(o.N)) // a tell's N plays no part: it holds the type here
	case api.OpNew:
		return m.p.Classes[o.N].Fields
	case api.OpCall:
		return m.p.Funcs[o.N].Blocks[0].Params
	}
	return nil
}

// step is a step without its values, and what it comes to.
func (m *maker) step() (api.Op, int) {
	if m.Intn(5) == 0 {
		n := m.Intn(len(m.p.Funcs))
		return api.Op{K: api.OpCall, N: int64(n)}, m.p.Funcs[n].Ret
	}
	sign := m.Intn(14)
	steps := []struct {
		o     api.Op
		comes int
	}{
		{num(), api.TInt}, {api.Op{K: api.OpArith, N: int64(sign)}, sign / api.Less}, {api.Op{K: api.OpRoom}, api.TSlice},
		{api.Op{K: api.OpNot}, api.TBool}, {api.Op{K: api.OpCat}, api.TText}, {api.Op{K: api.OpAlike}, api.TBool},
		{api.Op{K: api.OpSize}, api.TInt}, {api.Op{K: api.OpAt}, api.TInt}, {api.Op{K: api.OpPut}, none},
		{api.Op{K: api.OpEnter}, none}, {api.Op{K: api.OpLook}, api.TInt}, {api.Op{K: api.OpCount}, api.TInt},
		{api.Op{K: api.OpTell, N: api.TInt}, none}, {api.Op{K: api.OpTell, N: api.TText}, none}, {api.Op{K: api.OpNew}, api.TPtr},
	}
	x := steps[m.Intn(len(steps))]
	return x.o, x.comes
}

// wants lays the slots of a block: of its steps, and of its end.
func (m *maker) wants(f *api.Func, at int) {
	b := &f.Blocks[at]
	want := func(own int, types []int, places ...*int) {
		for n, place := range places[:min(len(places), len(types))] {
			m.slots[at] = append(m.slots[at], slot{place, types[n], own})
		}
	}
	for n := range b.Ops {
		o := &b.Ops[n]
		types, own := m.takes(*o), len(b.Params)+n
		if o.K == api.OpNew || o.K == api.OpCall {
			o.L = make([]int, len(types))
			want(own, types, places(o.L)...)
		} else {
			want(own, types, &o.A, &o.B, &o.C)
		}
	}
	e, all := &b.End, len(m.types[at])
	switch e.K {
	case api.EndBranch:
		want(all, to(api.TBool), &e.A)
		e.M = make([]int, len(f.Blocks[e.Else].Params))
		want(all, f.Blocks[e.Else].Params, places(e.M)...)
		fallthrough
	case api.EndJump:
		e.L = make([]int, len(f.Blocks[e.To].Params))
		want(all, f.Blocks[e.To].Params, places(e.L)...)
	case api.EndRet:
		if f.Ret != none {
			want(all, to(f.Ret), &e.A)
		}
	case api.EndStop:
		want(all, to(api.TInt), &e.A)
	}
}

func places(l []int) []*int {
	var all []*int
	for at := range l {
		all = append(all, &l[at])
	}
	return all
}

// seen is a value that a slot of a block sees; of block 0 the first steps make one of each type, and slots of theirs there are none.
func (m *maker) seen(f api.Func, block int, s slot) int {
	var can []int
	for from, types := range m.types {
		if !m.over[from][block] {
			continue
		}
		for n, t := range types {
			if t == s.t && (from != block || n < s.own) {
				can = append(can, first(f, from)+n)
			}
		}
	}
	return can[m.Intn(len(can))]
}

// overs tell of each two blocks whether the one is over the other.
func overs(f api.Func) [][]bool {
	above := dom.Above(f)
	over := make([][]bool, len(f.Blocks))
	for a := range over {
		over[a] = make([]bool, len(f.Blocks))
	}
	for _, b := range cfg.Order(f) {
		for a := b; a >= 0; a = above[a] {
			over[a][b] = true
		}
	}
	return over
}
