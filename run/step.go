package run

import (
	"hallmark/api"
	"hallmark/text"
	"hallmark/word"
)

// step does a step that is paid. A call comes to something when its function is over.
func (m *machine) step(o *api.Op) {
	f := m.top
	switch o.K {
	case api.OpCall:
		m.call(int(o.N), f.all(o.L))
	case api.OpAsk:
		m.call(m.method(f.value(o.A).R, o.N), append([]api.Val{f.value(o.A)}, f.all(o.L)...))
	case api.OpTell:
		m.tell(o.A)
		f.come(api.Val{})
	case api.OpNew, api.OpMake, api.OpRoom, api.OpTable:
		f.come(api.Val{R: m.made(o)})
	case api.OpGet, api.OpSet, api.OpSize, api.OpAt, api.OpPut:
		f.come(m.row(o))
	case api.OpEnter, api.OpLook, api.OpCount, api.OpKey:
		f.come(api.Val{N: m.table(o)})
	default:
		f.come(f.reckon(o))
	}
}

// fail gives the run up with a code, unless what is asked for holds.
func fail(holds bool, code int64) {
	if !holds {
		panic(over{api.Failed, code})
	}
}

// done gives the run up with what memory answers, unless that is Done; with a code, if it is Failed.
func done(answer int, code int64) {
	switch answer {
	case api.Done:
	case api.Failed:
		panic(over{answer, code})
	default:
		panic(over{end: answer})
	}
}

// method is the function that is the method n of an object. Memory is not asked: what is gone keeps its class.
func (m *machine) method(object int, n int64) int {
	fun := m.p.Classes[m.classes[object]].Methods[n]
	fail(fun >= 0, api.FailAsk)
	return fun
}

// tell lays a value into the trace; an empty text and the number 0 are told apart by their types alone.
func (m *machine) tell(value int) {
	v := m.top.value(value)
	if m.top.plan.types[value] == api.TText {
		m.trace = append(m.trace, text.Quote(v.S))
	} else {
		m.trace = append(m.trace, text.Digits(v.N))
	}
}

// reckon is what a step comes to that is of values alone.
func (f *frame) reckon(o *api.Op) api.Val {
	switch o.K {
	case api.OpInt, api.OpBool:
		return api.Val{N: o.N}
	case api.OpText:
		return api.Val{S: o.S}
	case api.OpArith:
		n, ok := word.Arith(int(o.N), f.value(o.A).N, f.value(o.B).N)
		fail(ok, api.FailDiv)
		return api.Val{N: n}
	case api.OpNot:
		return api.Val{N: 1 - f.value(o.A).N}
	case api.OpCat:
		s, ok := text.Cat(f.value(o.A).S, f.value(o.B).S)
		fail(ok, api.FailText)
		return api.Val{S: s}
	case api.OpLong:
		return api.Val{N: int64(len(f.value(o.A).S))}
	case api.OpByte:
		n, ok := text.Byte(f.value(o.A).S, f.value(o.B).N)
		fail(ok, api.FailAt)
		return api.Val{N: n}
	case api.OpAlike:
		if f.value(o.A).S == f.value(o.B).S {
			return api.Val{N: 1}
		}
	case api.OpFace:
		return f.value(o.A)
	}
	return api.Val{}
}

// made makes an object, a slice, or a table: its number.
func (m *machine) made(o *api.Op) int {
	var object, answer int
	switch o.K {
	case api.OpNew:
		object, answer = m.mem.Object(m.top.all(o.L), o.Stack)
	case api.OpMake:
		object, answer = m.mem.Slice(o.N, o.Stack)
	case api.OpRoom:
		object, answer = m.mem.Slice(m.top.value(o.A).N, false)
	case api.OpTable:
		object, answer = m.mem.Table(o.Stack)
	}
	done(answer, api.FailSize)
	if o.K == api.OpNew {
		m.classes[object] = int(o.N)
	}
	return object
}

// row does a step of an object, or a slice.
func (m *machine) row(o *api.Op) api.Val {
	f := m.top
	var v api.Val
	var answer int
	switch r := f.value(o.A).R; o.K {
	case api.OpGet:
		v, answer = m.mem.Get(r, o.N)
	case api.OpSet:
		answer = m.mem.Set(r, o.N, f.value(o.B))
	case api.OpSize:
		v.N, answer = m.mem.Size(r)
	case api.OpAt:
		v, answer = m.mem.Get(r, f.value(o.B).N)
	case api.OpPut:
		answer = m.mem.Set(r, f.value(o.B).N, f.value(o.C))
	}
	done(answer, api.FailAt)
	return v
}

// table does a step of a table.
func (m *machine) table(o *api.Op) int64 {
	f := m.top
	var n int64
	var answer int
	switch r := f.value(o.A).R; o.K {
	case api.OpEnter:
		answer = m.mem.Put(r, f.value(o.B).N, f.value(o.C).N)
	case api.OpLook:
		n, answer = m.mem.Look(r, f.value(o.B).N)
	case api.OpCount:
		n, answer = m.mem.Size(r)
	case api.OpKey:
		n, answer = m.mem.Key(r, f.value(o.B).N)
	}
	done(answer, api.FailAt)
	return n
}
