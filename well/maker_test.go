package well_test

import (
	"maps"
	"math/rand"
	"slices"
	"strings"

	"hallmark/api"
	"hallmark/cfg"
)

// maker makes well made programs up, always the same ones. While a function is made, a value is named by its block times room, and its place there.
type maker struct {
	*rand.Rand
	p     *api.Prog
	f     *api.Func
	block int         // where steps are laid
	types map[int]int // of the values of f that are something
	over  [][]bool
}

// room is more than a block has of values.
const room = 10000

// prog is a well made program.
func (m *maker) prog() *api.Prog {
	m.p = new(api.Prog)
	for class := range m.Intn(4) {
		c := api.Class{}
		for range m.Intn(4) {
			c.Fields = append(c.Fields, m.aType(class))
		}
		m.p.Classes = append(m.p.Classes, c)
	}
	for range m.Intn(4) {
		m.p.Sigs = append(m.p.Sigs, api.Sig{Params: m.someTypes(2), Ret: m.aRet()})
	}
	m.p.Funcs = append(m.p.Funcs, fun(api.TInt, block(make([]int, m.Intn(3)), api.End{})))
	for range m.Intn(4) {
		m.p.Funcs = append(m.p.Funcs, fun(m.aRet(), block(m.someTypes(3), api.End{})))
	}
	m.methods()
	for n := range m.p.Funcs {
		m.body(&m.p.Funcs[n])
	}
	return m.p
}

// methods gives each class a method, or none, for each sig.
func (m *maker) methods() {
	for _, s := range m.p.Sigs {
		var can []int
		for range m.Intn(3) {
			can = append(can, len(m.p.Funcs))
			m.p.Funcs = append(m.p.Funcs, fun(s.Ret, block(slices.Concat(to(api.TFace), s.Params), api.End{})))
		}
		for n := range m.p.Classes {
			method := -1 - m.Intn(3)
			if len(can) > 0 && m.Intn(4) > 0 {
				method = can[m.Intn(len(can))]
			}
			m.p.Classes[n].Methods = append(m.p.Classes[n].Methods, method)
		}
	}
}

// aType is a type of which values can be made with the first classes alone.
func (m *maker) aType(classes int) int {
	if classes == 0 {
		return m.Intn(api.TFace)
	}
	return m.Intn(api.TPtr + classes)
}

func (m *maker) someTypes(most int) []int {
	var l []int
	for range m.Intn(most + 1) {
		l = append(l, m.aType(len(m.p.Classes)))
	}
	return l
}

func (m *maker) aRet() int {
	if m.Intn(4) == 0 {
		return none
	}
	return m.aType(len(m.p.Classes))
}

// body makes the blocks of a function that has its parameters.
func (m *maker) body(f *api.Func) {
	m.f, m.types = f, map[int]int{}
	m.ways(1 + m.Intn(6))
	m.over = overs(*f)
	for n, b := range f.Blocks {
		for at, t := range b.Params {
			m.types[n*room+at] = t
		}
	}
	for _, m.block = range cfg.Order(*f) {
		for range m.Intn(5) {
			m.step()
		}
		m.end()
	}
	m.number()
}

// ways makes blocks, all of which are met: each one beside the first has one ahead of it that leads there. Then they are dealt anew.
func (m *maker) ways(blocks int) {
	next := make([][]int, blocks)
	for n := 1; n < blocks; n++ {
		from := m.Intn(n)
		for len(next[from]) == 2 {
			from = m.Intn(n)
		}
		next[from] = append(next[from], n)
	}
	dealt := to(0)
	for _, n := range m.Perm(blocks - 1) {
		dealt = append(dealt, n+1)
	}
	l := make([]api.Block, blocks)
	for n := range l {
		for blocks > 1 && len(next[n]) < 2 && m.Intn(2) == 0 {
			next[n] = append(next[n], 1+m.Intn(blocks-1))
		}
		m.Shuffle(len(next[n]), func(a, b int) { next[n][a], next[n][b] = next[n][b], next[n][a] })
		b := block(m.someTypes(2), api.End{K: api.EndRet + m.Intn(8)/7})
		switch len(next[n]) {
		case 1:
			b.End = jump(dealt[next[n][0]])
		case 2:
			b.End = branch(0, dealt[next[n][0]], nil, dealt[next[n][1]], nil)
		}
		l[dealt[n]] = b
	}
	l[0].Params = m.f.Blocks[0].Params
	m.f.Blocks = l
}

// lay lays a step, which comes to a type.
func (m *maker) lay(o api.Op, t int) int {
	b := &m.f.Blocks[m.block]
	b.Ops = append(b.Ops, o)
	value := m.block*room + len(b.Params) + len(b.Ops) - 1
	if t != none {
		m.types[value] = t
	}
	return value
}

// value is a value of a type: one that is seen, or a new one.
func (m *maker) value(t int) int {
	var seen []int
	for _, value := range slices.Sorted(maps.Keys(m.types)) {
		if m.types[value] == t && m.over[value/room][m.block] && (value/room == m.block || m.Intn(3) > 0) {
			seen = append(seen, value)
		}
	}
	if len(seen) > 0 && m.Intn(4) > 0 {
		return seen[m.Intn(len(seen))]
	}
	return m.fresh(t)
}

func (m *maker) values(types []int) []int {
	var l []int
	for _, t := range types {
		l = append(l, m.value(t))
	}
	return l
}

// fresh is a new value of a type.
func (m *maker) fresh(t int) int {
	o := api.Op{}
	switch t {
	case api.TInt:
		o = num(m.Int63() >> m.Intn(63))
	case api.TBool:
		o = bit(int64(m.Intn(2)))
	case api.TText:
		o = str(strings.Repeat("t", m.Intn(65)))
	case api.TSlice:
		o = api.Op{K: api.OpMake, N: int64(m.Intn(129)), Stack: m.Intn(2) == 0}
	case api.TTable:
		o = api.Op{K: api.OpTable, Stack: m.Intn(2) == 0}
	case api.TFace:
		o = api.Op{K: api.OpFace, A: m.value(api.TPtr + m.Intn(len(m.p.Classes)))}
	default:
		o = api.Op{K: api.OpNew, N: int64(t - api.TPtr), L: m.values(m.p.Classes[t-api.TPtr].Fields)}
	}
	return m.lay(o, t)
}

// simple are the steps whose values' types hang on nothing else, and what they come to.
var simple = []struct {
	k     int
	wants []int
	comes int
}{
	{api.OpNot, to(1), 1}, {api.OpCat, to(2, 2), 2}, {api.OpLong, to(2), 0}, {api.OpByte, to(2, 0), 0}, {api.OpAlike, to(2, 2), 1},
	{api.OpRoom, to(0), 3}, {api.OpSize, to(3), 0}, {api.OpAt, to(3, 0), 0}, {api.OpPut, to(3, 0, 0), none}, {api.OpEnter, to(4, 0, 0), none},
	{api.OpLook, to(4, 0), 0}, {api.OpCount, to(4), 0}, {api.OpKey, to(4, 0), 0}, {api.OpTell, to(0), none}, {api.OpTell, to(2), none},
}

// step lays a step, behind those that make what it is of, if need be.
func (m *maker) step() {
	switch kind := m.Intn(10); {
	case kind < 4:
		x := simple[m.Intn(len(simple))]
		l := append(m.values(x.wants), 0, 0)
		m.lay(api.Op{K: x.k, A: l[0], B: l[1], C: l[2]}, x.comes)
	case kind == 4:
		sign := m.Intn(14)
		m.lay(api.Op{K: api.OpArith, N: int64(sign), A: m.value(0), B: m.value(0)}, sign/10)
	case kind == 5:
		m.fresh(m.aType(len(m.p.Classes)))
	case kind == 6 && len(m.p.Sigs) > 0 && len(m.p.Classes) > 0:
		n := m.Intn(len(m.p.Sigs))
		s := m.p.Sigs[n]
		m.lay(api.Op{K: api.OpAsk, N: int64(n), A: m.value(api.TFace), L: m.values(s.Params)}, s.Ret)
	case kind == 7:
		n := m.Intn(len(m.p.Funcs))
		f := m.p.Funcs[n]
		if len(m.p.Classes) > 0 || !slices.Contains(f.Blocks[0].Params, api.TFace) {
			m.lay(call(int64(n), m.values(f.Blocks[0].Params)...), f.Ret)
		}
	case len(m.p.Classes) > 0:
		class := m.Intn(len(m.p.Classes))
		if l := m.p.Classes[class].Fields; len(l) > 0 {
			n := m.Intn(len(l))
			m.field(api.Op{N: int64(n), A: m.value(api.TPtr + class)}, l[n])
		}
	}
}

// field lays a step that gets, or sets, a field.
func (m *maker) field(o api.Op, t int) {
	if m.Intn(2) == 0 {
		o.K = api.OpGet
		m.lay(o, t)
		return
	}
	o.K, o.B = api.OpSet, m.value(t)
	m.lay(o, none)
}

// end lays what the block's end is of.
func (m *maker) end() {
	end := m.f.Blocks[m.block].End
	switch {
	case end.K == api.EndBranch:
		end.A = m.value(api.TBool)
		end.L = m.values(m.f.Blocks[end.To].Params)
		end.M = m.values(m.f.Blocks[end.Else].Params)
	case end.K == api.EndJump:
		end.L = m.values(m.f.Blocks[end.To].Params)
	case end.K == api.EndRet && m.f.Ret != none:
		end.A = m.value(m.f.Ret)
	case end.K == api.EndStop:
		end.A = m.value(api.TInt)
	}
	m.f.Blocks[m.block].End = end
}

// number gives all values their numbers.
func (m *maker) number() {
	first := to(0)
	for at, b := range m.f.Blocks {
		first = append(first, first[at]+len(b.Params)+len(b.Ops))
	}
	one := func(value *int) { *value = first[*value/room] + *value%room }
	all := func(l []int) {
		for at := range l {
			one(&l[at])
		}
	}
	for n := range m.f.Blocks {
		b := &m.f.Blocks[n]
		for at := range b.Ops {
			o := &b.Ops[at]
			one(&o.A)
			one(&o.B)
			one(&o.C)
			all(o.L)
		}
		if b.End.K != api.EndRet || m.f.Ret != none {
			one(&b.End.A)
		}
		all(b.End.L)
		all(b.End.M)
	}
}
