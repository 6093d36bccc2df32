package run_test

import (
	"fmt"
	"math/big"
	"slices"
	"strings"

	"hallmark/api"
)

// mark is a value of the model's: a number or a truth, a text, or a thing.
type mark struct {
	n    int64
	s    string
	text bool
	it   *thing
}

// thing is an object, a slice or a table. It knows its class, and whether its frame is gone.
type thing struct {
	class  int
	stack  bool
	gone   bool
	values []mark
	keys   []int64
	under  []int64
}

// model is a run in the chapter's words: a function that is run is a call of Go's, a value is found by its number in a map, and all that is made on the stack is told that it is gone.
type model struct {
	p     *api.Prog
	limit int
	fuel  int
	out   api.Outcome
}

// ends is what a run of the model is given up with.
type ends struct {
	how  int
	code int64
}

// modelled is what comes of a run in the chapter's words; the program is well made, or nobody was handed as many numbers as it wants.
func modelled(p *api.Prog, in []int64, limit, fuel int) (x api.Outcome) {
	m := &model{p: p, limit: min(max(limit, 0), 16777216), fuel: min(max(fuel, 0), 1048576)}
	var handed []mark
	for _, n := range in {
		handed = append(handed, mark{n: n})
	}
	defer func() {
		if e := recover(); e != nil {
			m.out.End, m.out.Code = e.(ends).how, e.(ends).code
			x = m.out
		}
	}()
	m.out.Code = m.fun(0, handed).n
	m.out.End = api.Done
	return m.out
}

func (m *model) pay() {
	if m.fuel == 0 {
		panic(ends{how: api.NoFuel})
	}
	m.fuel--
	m.out.Steps++
}

// fun runs a function: what it comes to.
func (m *model) fun(n int, handed []mark) mark {
	f := m.p.Funcs[n]
	var made []*thing
	defer func() {
		for _, it := range made {
			it.gone = true
		}
	}()
	first := []int{0}
	for i, b := range f.Blocks {
		first = append(first, first[i]+len(b.Params)+len(b.Ops))
	}
	v := map[int]mark{}
	for at := 0; ; {
		b := f.Blocks[at]
		for i := range b.Params {
			v[first[at]+i] = handed[i]
		}
		for i, o := range b.Ops {
			m.pay()
			v[first[at]+len(b.Params)+i] = m.op(o, v, &made)
		}
		m.pay()
		e, l := b.End, []int(nil)
		switch e.K {
		case api.EndJump:
			at, l = e.To, e.L
		case api.EndBranch:
			at, l = e.Else, e.M
			if v[e.A].n == 1 {
				at, l = e.To, e.L
			}
		case api.EndRet:
			if f.Ret == -1 {
				return mark{}
			}
			return v[e.A]
		case api.EndStop:
			panic(ends{api.Stopped, v[e.A].n})
		}
		handed = nil
		for _, n := range l {
			handed = append(handed, v[n])
		}
	}
}

// take takes bytes of the heap.
func (m *model) take(bytes int) {
	if m.out.Used+bytes > m.limit {
		panic(ends{how: api.NoRoom})
	}
	m.out.Used += bytes
}

// lay makes a thing where it is to lie.
func (m *model) lay(it *thing, made *[]*thing) mark {
	if it.stack {
		*made = append(*made, it)
	} else {
		m.take(8 + 8*len(it.values))
		m.out.Makes++
	}
	return mark{it: it}
}

// here is a thing that is there still.
func here(v mark) *thing {
	if v.it.gone {
		panic(ends{how: api.Stale})
	}
	return v.it
}

// inside asks that there is a value, a key, or a byte i.
func inside(i int64, many int) {
	if i < 0 || i >= int64(many) {
		panic(ends{api.Failed, 2})
	}
}

// op does a step: what it comes to.
func (m *model) op(o api.Op, v map[int]mark, made *[]*thing) mark {
	a, b, c := v[o.A], v[o.B], v[o.C]
	var l []mark
	for _, n := range o.L {
		l = append(l, v[n])
	}
	switch o.K {
	case api.OpInt, api.OpBool:
		return mark{n: o.N}
	case api.OpText:
		return mark{s: o.S, text: true}
	case api.OpArith:
		return mark{n: reckoned(int(o.N), a.n, b.n)}
	case api.OpNot:
		return mark{n: map[int64]int64{0: 1, 1: 0}[a.n]}
	case api.OpCat:
		if len(a.s)+len(b.s) > 4096 {
			panic(ends{api.Failed, 5})
		}
		return mark{s: strings.Join([]string{a.s, b.s}, ""), text: true}
	case api.OpLong:
		return mark{n: int64(len(a.s))}
	case api.OpByte:
		inside(b.n, len(a.s))
		return mark{n: int64(a.s[b.n])}
	case api.OpAlike:
		return truth(a.s == b.s)
	case api.OpFace:
		return a
	case api.OpCall:
		return m.fun(int(o.N), l)
	case api.OpAsk:
		method := m.p.Classes[a.it.class].Methods[o.N]
		if method < 0 {
			panic(ends{api.Failed, 4})
		}
		return m.fun(method, slices.Concat([]mark{a}, l))
	case api.OpTell:
		m.out.Trace = append(m.out.Trace, told(a))
		return mark{}
	case api.OpNew:
		return m.lay(&thing{class: int(o.N), stack: o.Stack, values: l}, made)
	case api.OpMake:
		return m.lay(&thing{stack: o.Stack, values: make([]mark, o.N)}, made)
	case api.OpRoom:
		if a.n < 0 || a.n > 1024 {
			panic(ends{api.Failed, 3})
		}
		return m.lay(&thing{values: make([]mark, a.n)}, made)
	case api.OpTable:
		return m.lay(&thing{stack: o.Stack}, made)
	}
	return m.memory(o, here(a), b, c)
}

// memory does a step of a thing that is there.
func (m *model) memory(o api.Op, it *thing, b, c mark) mark {
	switch o.K {
	case api.OpGet:
		return it.values[o.N]
	case api.OpSet:
		it.values[o.N] = b
	case api.OpSize:
		return mark{n: int64(len(it.values))}
	case api.OpAt:
		inside(b.n, len(it.values))
		return it.values[b.n]
	case api.OpPut:
		inside(b.n, len(it.values))
		it.values[b.n] = c
	case api.OpEnter:
		if n := slices.Index(it.keys, b.n); n >= 0 {
			it.under[n] = c.n
			break
		}
		if !it.stack {
			m.take(16)
		}
		it.keys, it.under = append(it.keys, b.n), append(it.under, c.n)
	case api.OpLook:
		if n := slices.Index(it.keys, b.n); n >= 0 {
			return mark{n: it.under[n]}
		}
	case api.OpCount:
		return mark{n: int64(len(it.keys))}
	case api.OpKey:
		inside(b.n, len(it.keys))
		return mark{n: it.keys[b.n]}
	default:
		panic(fmt.Sprint("no such step: ", o.K))
	}
	return mark{}
}

func truth(is bool) mark {
	if is {
		return mark{n: 1}
	}
	return mark{}
}

// reckoned is a sign of two numbers, by numbers that do not wrap, and are cut then.
func reckoned(sign int, a, b int64) int64 {
	x, y, z := big.NewInt(a), big.NewInt(b), new(big.Int)
	if (sign == api.Div || sign == api.Rem) && b == 0 {
		panic(ends{api.Failed, 1})
	}
	shift := uint(new(big.Int).And(y, big.NewInt(63)).Int64())
	switch sign {
	case api.Add:
		z.Add(x, y)
	case api.Sub:
		z.Sub(x, y)
	case api.Mul:
		z.Mul(x, y)
	case api.Div:
		z.Quo(x, y)
	case api.Rem:
		z.Rem(x, y)
	case api.And:
		z.And(x, y)
	case api.Or:
		z.Or(x, y)
	case api.Xor:
		z.Xor(x, y)
	case api.Shl:
		z.Lsh(x, shift)
	case api.Shr:
		z.Rsh(x, shift)
	case api.Less:
		return truth(x.Cmp(y) < 0).n
	case api.Most:
		return truth(x.Cmp(y) <= 0).n
	case api.Same:
		return truth(x.Cmp(y) == 0).n
	case api.Else:
		return truth(x.Cmp(y) != 0).n
	}
	return int64(z.And(z, new(big.Int).SetUint64(1<<64-1)).Uint64())
}

// told is how a value is told.
func told(v mark) string {
	if !v.text {
		return fmt.Sprint(v.n)
	}
	s := `"`
	for _, b := range []byte(v.s) {
		switch {
		case b == '"' || b == '\\':
			s += `\` + string(rune(b))
		case b < 32 || b > 126:
			s += fmt.Sprintf(`\%02x`, b)
		default:
			s += string(rune(b))
		}
	}
	return s + `"`
}
