package run_test

import (
	"maps"
	"math/rand"
	"slices"

	"hallmark/api"
	"hallmark/dom"
)

// maker makes well made programs up, always the same ones, of which many runs go far. While a function is made, a value is named by its block times wide, and its place there.
type maker struct {
	*rand.Rand
	stack bool // whether anything is made on the stack
	p     *api.Prog
	f     *api.Func
	own   int         // f's number
	block int         // where steps are laid
	types map[int]int // of the values of f that are something
}

// wide is more than a block has of values.
const wide = 10000

// made are programs made up.
func made(seed int64, many int, stack bool) []*api.Prog {
	m := &maker{Rand: rand.New(rand.NewSource(seed)), stack: stack}
	var l []*api.Prog
	for range many {
		l = append(l, m.prog())
	}
	return l
}

// prog is a program with two methods and three classes; function 0 is of two numbers.
func (m *maker) prog() *api.Prog {
	m.p = &api.Prog{Sigs: []api.Sig{{Params: m.someTypes(2, 1), Ret: m.aRet(1)}, {Ret: m.aRet(2)}}}
	for class := range 3 {
		c := api.Class{}
		for range m.Intn(4) {
			c.Fields = append(c.Fields, m.aType(class))
		}
		m.p.Classes = append(m.p.Classes, c)
	}
	m.p.Funcs = append(m.p.Funcs, fun(api.TInt, block(to(0, 0), api.End{})))
	for range 1 + m.Intn(4) {
		m.p.Funcs = append(m.p.Funcs, fun(m.aRet(3), block(m.someTypes(3, 3), api.End{})))
	}
	for _, s := range m.p.Sigs {
		first := len(m.p.Funcs)
		for range 1 + m.Intn(2) {
			m.p.Funcs = append(m.p.Funcs, fun(s.Ret, block(slices.Concat(to(api.TFace), s.Params), api.End{})))
		}
		for n := range m.p.Classes {
			method := first + m.Intn(len(m.p.Funcs)-first)
			if m.Intn(10) == 0 {
				method = -1 - m.Intn(3)
			}
			m.p.Classes[n].Methods = append(m.p.Classes[n].Methods, method)
		}
	}
	for n := range m.p.Funcs {
		m.body(n)
	}
	return m.p
}

// aType is a type of which values can be made with the first classes alone.
func (m *maker) aType(classes int) int {
	if classes == 0 {
		return m.Intn(api.TFace)
	}
	return m.Intn(api.TPtr + classes)
}

func (m *maker) someTypes(most, classes int) []int {
	var l []int
	for range m.Intn(most + 1) {
		l = append(l, m.aType(classes))
	}
	return l
}

// aRet lies in memory most often, or is nothing.
func (m *maker) aRet(classes int) int {
	switch m.Intn(6) {
	case 0:
		return none
	case 1, 2:
		return m.aType(classes)
	case 3:
		return api.TSlice
	case 4:
		return api.TTable
	}
	return api.TPtr + m.Intn(3)
}

// body makes the blocks of a function that has its parameters.
func (m *maker) body(n int) {
	m.f, m.own, m.types = &m.p.Funcs[n], n, map[int]int{}
	m.ways(1 + m.Intn(6))
	above := dom.Above(*m.f)
	for n, b := range m.f.Blocks {
		for at, t := range b.Params {
			m.types[n*wide+at] = t
		}
	}
	// What is over a block is made ahead of it.
	ready := map[int]bool{-1: true}
	for range m.f.Blocks {
		for n := range m.f.Blocks {
			if !ready[n] && ready[above[n]] {
				ready[n] = true
				m.block = n
				for range 1 + m.Intn(6) {
					m.step(above)
				}
				m.end(above)
			}
		}
	}
	m.number()
}

// ways makes blocks, all of which are met, most of them leading on; then they are dealt anew.
func (m *maker) ways(blocks int) {
	next := make([][]int, blocks)
	for n := 1; n < blocks; n++ {
		from := m.Intn(n)
		for len(next[from]) == 2 {
			from = m.Intn(n)
		}
		next[from] = append(next[from], n)
	}
	dealt := to(0)
	for _, n := range m.Perm(blocks - 1) {
		dealt = append(dealt, n+1)
	}
	l := make([]api.Block, blocks)
	for n := range l {
		for blocks > 1 && len(next[n]) < 2 && m.Intn(3) == 0 {
			next[n] = append(next[n], 1+m.Intn(blocks-1))
		}
		m.Shuffle(len(next[n]), func(a, b int) { next[n][a], next[n][b] = next[n][b], next[n][a] })
		b := block(m.someTypes(3, 3), api.End{K: api.EndRet + m.Intn(8)/7})
		switch len(next[n]) {
		case 1:
			b.End = jump(dealt[next[n][0]])
		case 2:
			b.End = branch(0, dealt[next[n][0]], nil, dealt[next[n][1]], nil)
		}
		l[dealt[n]] = b
	}
	l[0].Params = m.f.Blocks[0].Params
	m.f.Blocks = l
}

// lay lays a step, which comes to a type.
func (m *maker) lay(o api.Op, t int) int {
	b := &m.f.Blocks[m.block]
	b.Ops = append(b.Ops, o)
	value := m.block*wide + len(b.Params) + len(b.Ops) - 1
	if t != none {
		m.types[value] = t
	}
	return value
}

// seen are the values of a type that the next step sees.
func (m *maker) seen(t int, above []int) []int {
	over := map[int]bool{}
	for n := m.block; n >= 0; n = above[n] {
		over[n] = true
	}
	var l []int
	for _, value := range slices.Sorted(maps.Keys(m.types)) {
		if m.types[value] == t && over[value/wide] {
			l = append(l, value)
		}
	}
	return l
}

// value is a value of a type: one that is seen, or a new one.
func (m *maker) value(t int, above []int) int {
	if l := m.seen(t, above); len(l) > 0 && m.Intn(5) > 0 {
		return l[m.Intn(len(l))]
	}
	return m.fresh(t, above)
}

func (m *maker) values(types, above []int) []int {
	var l []int
	for _, t := range types {
		l = append(l, m.value(t, above))
	}
	return l
}

// aNumber is small most often, so that there are places of that number.
func (m *maker) aNumber() int64 {
	if m.Intn(10) > 0 {
		return int64(1 + m.Intn(3))
	}
	return numbers(-1, -3, 5, 17, 64, 1024, 1025, least, greatest, 1<<32)[m.Intn(10)]
}

// aText is short most often.
func (m *maker) aText() string {
	return texts("", "a", "bcdef", "d\x00gh", "\"ijk", "\\elm", "éfnop", string(make([]byte, 64)))[m.Intn(8)]
}

// fresh is a new value of a type.
func (m *maker) fresh(t int, above []int) int {
	stack := m.stack && m.Intn(2) == 0
	switch t {
	case api.TInt:
		return m.lay(num(m.aNumber()), t)
	case api.TBool:
		return m.lay(bit(int64(m.Intn(2))), t)
	case api.TText:
		return m.lay(str(m.aText()), t)
	case api.TSlice:
		return m.lay(api.Op{K: api.OpMake, N: int64(m.Intn(7)), Stack: stack}, t)
	case api.TTable:
		return m.lay(api.Op{K: api.OpTable, Stack: stack}, t)
	case api.TFace:
		return m.lay(face(m.value(api.TPtr+m.Intn(3), above)), t)
	}
	class := t - api.TPtr
	return m.lay(api.Op{K: api.OpNew, N: int64(class), L: m.values(m.p.Classes[class].Fields, above), Stack: stack}, t)
}

// simple are the steps whose values' types hang on nothing else, and what they come to.
func simple() []struct {
	k     int
	wants []int
	comes int
} {
	return []struct {
		k     int
		wants []int
		comes int
	}{
		{api.OpNot, to(1), 1}, {api.OpCat, to(2, 2), 2}, {api.OpLong, to(2), 0}, {api.OpByte, to(2, 0), 0}, {api.OpAlike, to(2, 2), 1},
		{api.OpRoom, to(0), 3}, {api.OpSize, to(3), 0}, {api.OpAt, to(3, 0), 0}, {api.OpPut, to(3, 0, 0), none}, {api.OpEnter, to(4, 0, 0), none},
		{api.OpLook, to(4, 0), 0}, {api.OpCount, to(4), 0}, {api.OpKey, to(4, 0), 0}, {api.OpTell, to(0), none}, {api.OpTell, to(2), none},
		{api.OpSize, to(3), 0}, {api.OpCount, to(4), 0}, {api.OpEnter, to(4, 0, 0), none}, {api.OpTell, to(0), none}, {api.OpTell, to(0), none},
	}
}

// step lays a step, behind those that make what it is of, if need be.
func (m *maker) step(above []int) {
	switch way := m.Intn(12); {
	case way < 5:
		l := simple()
		x := l[m.Intn(len(l))]
		v := append(m.values(x.wants, above), 0, 0)
		if m.Intn(4) > 0 && slices.Contains(to(api.OpByte, api.OpAt, api.OpPut, api.OpRoom), x.k) {
			m.tame(x.k, v)
		}
		m.lay(api.Op{K: x.k, A: v[0], B: v[1], C: v[2]}, x.comes)
	case way == 5:
		m.reckon(above)
	case way == 6:
		m.fresh(m.aType(3), above)
	case way == 7:
		n := m.Intn(2)
		if slices.Contains(m.f.Blocks[0].Params, api.TFace) && m.Intn(8) > 0 {
			break // a method that asks goes on for ever, most likely
		}
		m.lay(ask(n, m.value(api.TFace, above), m.values(m.p.Sigs[n].Params, above)...), m.p.Sigs[n].Ret)
	case way < 10:
		m.call(above)
	default:
		class := m.Intn(3)
		if l := m.p.Classes[class].Fields; len(l) > 0 {
			m.field(m.value(api.TPtr+class, above), class, m.Intn(len(l)), above)
		}
	}
}

// tame makes a step be of values of which it does not fail, most likely.
func (m *maker) tame(k int, v []int) {
	small := m.lay(num(int64(m.Intn(3))), api.TInt)
	switch k {
	case api.OpByte:
		v[0], v[1] = m.lay(str("xyz"), api.TText), small
	case api.OpRoom:
		v[0] = small
	default:
		v[0] = m.lay(api.Op{K: api.OpMake, N: 3 + int64(m.Intn(3)), Stack: m.stack && m.Intn(2) == 0}, api.TSlice)
		v[1] = small
	}
}

// reckon lays a sign, most often not of 0 behind.
func (m *maker) reckon(above []int) {
	sign, t := m.Intn(14), api.TInt
	if sign >= api.Less {
		t = api.TBool
	}
	a, b := m.value(0, above), m.value(0, above)
	if m.Intn(4) > 0 && (sign == api.Div || sign == api.Rem) {
		b = m.lay(num(int64(m.Intn(9))-10), api.TInt)
	}
	m.lay(arith(sign, a, b), t)
}

// call lays a call, most often of a function that stands behind.
func (m *maker) call(above []int) {
	n := m.own + 1 + m.Intn(3)
	if m.Intn(20) == 0 {
		n = m.Intn(len(m.p.Funcs))
	}
	if n >= len(m.p.Funcs) {
		return
	}
	f := m.p.Funcs[n]
	v := m.lay(call(n, m.values(f.Blocks[0].Params, above)...), f.Ret)
	if m.Intn(2) == 0 {
		m.use(v, f.Ret, above)
	}
}

// use lays a step that asks a value, if it lies in memory.
func (m *maker) use(v, t int, above []int) {
	switch {
	case t == api.TSlice:
		m.lay(size(v), api.TInt)
	case t == api.TTable:
		m.lay(count(v), api.TInt)
	case t >= api.TPtr && len(m.p.Classes[t-api.TPtr].Fields) > 0:
		m.field(v, t-api.TPtr, 0, above)
	}
}

// field lays a step that gets, or sets, a field.
func (m *maker) field(a, class, n int, above []int) {
	t := m.p.Classes[class].Fields[n]
	if m.Intn(2) == 0 {
		m.lay(get(a, n), t)
		return
	}
	m.lay(set(a, n, m.value(t, above)), none)
}

// end lays what the block's end is of.
func (m *maker) end(above []int) {
	e := m.f.Blocks[m.block].End
	switch {
	case e.K == api.EndBranch:
		if l := m.seen(api.TBool, above); len(l) == 0 {
			e.A = m.lay(arith(api.Less+m.Intn(4), m.value(0, above), m.value(0, above)), api.TBool)
		} else {
			e.A = l[m.Intn(len(l))]
		}
		e.L = m.values(m.f.Blocks[e.To].Params, above)
		e.M = m.values(m.f.Blocks[e.Else].Params, above)
	case e.K == api.EndJump:
		e.L = m.values(m.f.Blocks[e.To].Params, above)
	case e.K == api.EndRet && m.f.Ret != none:
		e.A = m.value(m.f.Ret, above)
	case e.K == api.EndStop:
		e.A = m.value(api.TInt, above)
	}
	m.f.Blocks[m.block].End = e
}

// number gives all values their numbers.
func (m *maker) number() {
	first := to(0)
	for at, b := range m.f.Blocks {
		first = append(first, first[at]+len(b.Params)+len(b.Ops))
	}
	one := func(value *int) { *value = first[*value/wide] + *value%wide }
	all := func(l []int) {
		for at := range l {
			one(&l[at])
		}
	}
	for n := range m.f.Blocks {
		b := &m.f.Blocks[n]
		for at := range b.Ops {
			o := &b.Ops[at]
			one(&o.A)
			one(&o.B)
			one(&o.C)
			all(o.L)
		}
		if b.End.K != api.EndRet || m.f.Ret != none {
			one(&b.End.A)
		}
		all(b.End.L)
		all(b.End.M)
	}
}
