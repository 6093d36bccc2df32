package code_test

import (
	"encoding/hex"
	"math"
	"math/rand"
	"slices"
	"strings"

	"hallmark/api"
)

// What the tests hold code against: the chapter's bytes, written and read a second time, by other means.

// plays are the letters of each kind, by the table of chapter 4.
var plays = []string{"N", "N", "S", "NAB", "A", "AB", "A", "AB", "AB", "NLK", "NA", "NAB", "NK", "A", "A", "AB", "ABC", "K", "ABC", "AB", "A", "AB", "A", "NL", "NAL", "A"}

// strangers are kinds that are none, of steps and of ends, some of them kinds in their lowest bits alone.
var strangers = []int{-1, -2, -26, 26, 27, 64, 255, 256, 256 + 9, 1 << 16, 1 << 32, 1<<32 + 3, math.MaxInt, math.MinInt}

// hexed is bytes from digits of sixteen, with blanks and bars where they help the eye.
func hexed(s string) []byte {
	b, err := hex.DecodeString(strings.NewReplacer(" ", "", "|", "").Replace(s))
	if err != nil {
		panic(err)
	}
	return b
}

// number is a number's bytes.
func number(n int64) []byte {
	z := uint64(n<<1) ^ uint64(n>>63)
	var b []byte
	for ; z > 127; z /= 128 {
		b = append(b, byte(z%128+128))
	}
	return append(b, byte(z))
}

// list is a list's bytes.
func list(l []int) []byte {
	b := number(int64(len(l)))
	for _, n := range l {
		b = append(b, number(int64(n))...)
	}
	return b
}

// told are p's bytes, whatever its bounds and forms.
func told(p *api.Prog) []byte {
	b := number(int64(len(p.Sigs)))
	for _, s := range p.Sigs {
		b = slices.Concat(b, list(s.Params), number(int64(s.Ret)))
	}
	b = append(b, number(int64(len(p.Classes)))...)
	for _, c := range p.Classes {
		b = slices.Concat(b, list(c.Fields), list(c.Methods))
	}
	b = append(b, number(int64(len(p.Funcs)))...)
	for _, f := range p.Funcs {
		b = slices.Concat(b, number(int64(f.Ret)), number(int64(len(f.Blocks))))
		for _, k := range f.Blocks {
			b = slices.Concat(b, list(k.Params), number(int64(len(k.Ops))))
			for _, o := range k.Ops {
				b = append(b, step(o)...)
			}
			b = append(b, end(k.End)...)
		}
	}
	return b
}

// step is a step's bytes.
func step(o api.Op) []byte {
	b := number(int64(o.K))
	for _, letter := range plays[o.K] {
		switch letter {
		case 'N':
			b = append(b, number(o.N)...)
		case 'S':
			b = append(append(b, number(int64(len(o.S)))...), o.S...)
		case 'L':
			b = append(b, list(o.L)...)
		case 'K':
			b = append(b, map[bool]byte{false: 0, true: 2}[o.Stack])
		default:
			b = append(b, number(int64([]int{o.A, o.B, o.C}[letter-'A']))...)
		}
	}
	return b
}

// end is an end's bytes.
func end(e api.End) []byte {
	b := number(int64(e.K))
	switch e.K {
	case 0:
		return slices.Concat(b, number(int64(e.To)), list(e.L))
	case 1:
		return slices.Concat(b, number(int64(e.A)), number(int64(e.To)), list(e.L), number(int64(e.Else)), list(e.M))
	}
	return append(b, number(int64(e.A))...)
}

// eye goes over bytes, and notes the first error; behind it all is 0.
type eye struct {
	b   []byte
	err api.Errno
}

func (e *eye) fail(err api.Errno, when bool) bool {
	if when && e.err == api.OK {
		e.err = err
	}
	return e.err != api.OK
}

func (e *eye) number() int64 {
	var z uint64
	for at := 0; e.err == api.OK; at++ {
		if e.fail(api.ErrShort, at == len(e.b)) || e.fail(api.ErrForm, at == 9 && e.b[at] > 1 || at > 0 && e.b[at] == 0) {
			break
		}
		z += uint64(e.b[at]%128) << (7 * at)
		if e.b[at] < 128 {
			e.b = e.b[at+1:]
			return int64(z>>1) ^ -int64(z&1)
		}
	}
	return 0
}

func (e *eye) int() int { return int(e.number()) }

func (e *eye) count(most int64) int {
	n := e.number()
	if e.fail(api.ErrForm, n < 0) || e.fail(api.ErrLong, n > most) {
		return 0
	}
	return int(n)
}

func (e *eye) list(most int64) []int {
	l := make([]int, e.count(most))
	for at := range l {
		l[at] = e.int()
	}
	return l
}

func (e *eye) among(many int64) int {
	n := e.number()
	if e.fail(api.ErrForm, n < 0 || n >= many) {
		return 0
	}
	return int(n)
}

func (e *eye) text() string {
	n := e.count(64)
	if e.fail(api.ErrShort, n > len(e.b)) {
		return ""
	}
	s := string(e.b[:n])
	e.b = e.b[n:]
	return s
}

func (e *eye) step() api.Op {
	o := api.Op{K: e.among(26)}
	for _, letter := range plays[o.K] {
		switch letter {
		case 'N':
			o.N = e.number()
		case 'S':
			o.S = e.text()
		case 'L':
			o.L = e.list(8)
		case 'K':
			o.Stack = e.among(2) == 1
		default:
			*[]*int{&o.A, &o.B, &o.C}[letter-'A'] = e.int()
		}
	}
	return o
}

func (e *eye) end() api.End {
	end := api.End{K: e.among(4)}
	if end.K > 0 {
		end.A = e.int()
	}
	if end.K < 2 {
		end.To, end.L = e.int(), e.list(8)
	}
	if end.K == 1 {
		end.Else, end.M = e.int(), e.list(8)
	}
	return end
}

// read is the program of bytes, and the first error in their order.
func read(b []byte) (*api.Prog, api.Errno) {
	if len(b) > 65536 {
		return nil, api.ErrLong
	}
	e, p := &eye{b: b}, new(api.Prog)
	for range e.count(4) {
		p.Sigs = append(p.Sigs, api.Sig{Params: e.list(8), Ret: e.int()})
	}
	for range e.count(8) {
		p.Classes = append(p.Classes, api.Class{Fields: e.list(8), Methods: e.list(4)})
	}
	for range e.count(16) {
		f := api.Func{Ret: e.int()}
		for range e.count(40) {
			k := api.Block{Params: e.list(8)}
			for range e.count(700) {
				k.Ops = append(k.Ops, e.step())
			}
			k.End = e.end()
			f.Blocks = append(f.Blocks, k)
		}
		p.Funcs = append(p.Funcs, f)
	}
	if e.fail(api.ErrForm, len(e.b) > 0) {
		return nil, e.err
	}
	return p, api.OK
}

// stripped is a program in which what plays no part is zero.
func stripped(p *api.Prog) *api.Prog {
	q := clone(p)
	for i := range q.Funcs {
		for j := range q.Funcs[i].Blocks {
			k := &q.Funcs[i].Blocks[j]
			for at, o := range k.Ops {
				k.Ops[at] = only(o)
			}
			e := k.End
			k.End = [...]api.End{{To: e.To, L: e.L}, {A: e.A, To: e.To, L: e.L, Else: e.Else, M: e.M}, {A: e.A}, {A: e.A}, {}}[kindOf(e.K, 4)]
			k.End.K = e.K
		}
	}
	return q
}

// only is a step with the fields of its kind alone.
func only(o api.Op) api.Op {
	letters := ""
	if at := kindOf(o.K, len(plays)); at < len(plays) {
		letters = plays[at]
	}
	q := api.Op{K: o.K}
	for _, letter := range letters {
		switch letter {
		case 'N':
			q.N = o.N
		case 'S':
			q.S = o.S
		case 'A':
			q.A = o.A
		case 'B':
			q.B = o.B
		case 'C':
			q.C = o.C
		case 'L':
			q.L = o.L
		case 'K':
			q.Stack = o.Stack
		}
	}
	return q
}

// kindOf is k, or many, if it is none of so many kinds.
func kindOf(k, many int) int {
	if k < 0 || k >= many {
		return many
	}
	return k
}

// clone is a program in memory of its own, with all that plays no part.
func clone(p *api.Prog) *api.Prog {
	q := new(api.Prog)
	for _, s := range p.Sigs {
		s.Params = slices.Clone(s.Params)
		q.Sigs = append(q.Sigs, s)
	}
	for _, c := range p.Classes {
		c.Fields, c.Methods = slices.Clone(c.Fields), slices.Clone(c.Methods)
		q.Classes = append(q.Classes, c)
	}
	for _, f := range p.Funcs {
		f.Blocks = slices.Clone(f.Blocks)
		for j, k := range f.Blocks {
			k.Params, k.Ops = slices.Clone(k.Params), slices.Clone(k.Ops)
			for at := range k.Ops {
				k.Ops[at].L = slices.Clone(k.Ops[at].L)
			}
			k.End.L, k.End.M = slices.Clone(k.End.L), slices.Clone(k.End.M)
			f.Blocks[j] = k
		}
		q.Funcs = append(q.Funcs, f)
	}
	return q
}

// exact tells whether two programs hold the same in all fields, those that play no part among them; nil and empty lists are alike.
func exact(a, b *api.Prog) bool {
	if a == nil || b == nil {
		return a == b
	}
	return slices.EqualFunc(a.Sigs, b.Sigs, func(a, b api.Sig) bool { return a.Ret == b.Ret && slices.Equal(a.Params, b.Params) }) &&
		slices.EqualFunc(a.Classes, b.Classes, func(a, b api.Class) bool {
			return slices.Equal(a.Fields, b.Fields) && slices.Equal(a.Methods, b.Methods)
		}) &&
		slices.EqualFunc(a.Funcs, b.Funcs, func(a, b api.Func) bool { return a.Ret == b.Ret && slices.EqualFunc(a.Blocks, b.Blocks, exactBlock) })
}

func exactBlock(a, b api.Block) bool {
	return slices.Equal(a.Params, b.Params) && slices.EqualFunc(a.Ops, b.Ops, exactOp) &&
		a.End.K == b.End.K && a.End.A == b.End.A && a.End.To == b.End.To && a.End.Else == b.End.Else && slices.Equal(a.End.L, b.End.L) && slices.Equal(a.End.M, b.End.M)
}

func exactOp(a, b api.Op) bool {
	return a.K == b.K && a.A == b.A && a.B == b.B && a.C == b.C && a.N == b.N && a.S == b.S && slices.Equal(a.L, b.L) && a.Stack == b.Stack
}

// full is a step whose fields all hold something, those that play no part among them.
func full(k int) api.Op {
	return api.Op{K: k, A: 4, B: 5, C: 6, N: 7, S: "s", L: []int{8, 9, 10}, Stack: true}
}

// fullEnd is an end whose fields all hold something.
func fullEnd(k int) api.End {
	return api.End{K: k, A: 4, To: 5, L: []int{7, 8}, Else: 6, M: []int{9}}
}

// whole is a program that has each kind of step and of end, all of them full.
func whole() *api.Prog {
	p := &api.Prog{
		Sigs:    []api.Sig{{Params: []int{0, 5}, Ret: -1}, {Ret: 2}},
		Classes: []api.Class{{Fields: []int{0, 6, 3}, Methods: []int{1, -1}}, {Methods: []int{-1, -64}}},
		Funcs:   []api.Func{{Ret: 0, Blocks: []api.Block{{Params: []int{0, 1}}, {Params: []int{6}}, {}, {}}}, {Ret: -1}},
	}
	blocks := p.Funcs[0].Blocks
	for k := range api.Ops {
		blocks[k%2].Ops = append(blocks[k%2].Ops, full(k))
	}
	for k := range blocks {
		blocks[k].End = fullEnd(k)
	}
	return p
}

// one is a program of one function, of one block, with these steps.
func one(ops ...api.Op) *api.Prog {
	return &api.Prog{Funcs: []api.Func{{Blocks: []api.Block{{Ops: ops, End: api.End{K: api.EndRet}}}}}}
}

// ending is a program of one function, of one block without steps, with this end.
func ending(e api.End) *api.Prog {
	return &api.Prog{Funcs: []api.Func{{Blocks: []api.Block{{End: e}}}}}
}

// chance makes things up, always the same ones.
type chance struct{ *rand.Rand }

func (c chance) int() int {
	n := int(c.Uint64())
	return n >> c.Intn(64)
}

func (c chance) list(most int) []int {
	l := make([]int, c.Intn(most+1))
	for at := range l {
		l[at] = c.int()
	}
	return l
}

func (c chance) step() api.Op {
	s := make([]byte, c.Intn(65))
	c.Read(s)
	return api.Op{K: c.Intn(26), A: c.int(), B: c.int(), C: c.int(), N: int64(c.int()), S: string(s), L: c.list(8), Stack: c.Intn(2) == 1}
}

func (c chance) prog() *api.Prog {
	p := new(api.Prog)
	for range c.Intn(5) {
		p.Sigs = append(p.Sigs, api.Sig{Params: c.list(8), Ret: c.int()})
	}
	for range c.Intn(9) {
		p.Classes = append(p.Classes, api.Class{Fields: c.list(8), Methods: c.list(4)})
	}
	for range c.Intn(6) {
		f := api.Func{Ret: c.int()}
		for range c.Intn(6) {
			k := api.Block{Params: c.list(8), End: api.End{K: c.Intn(4), A: c.int(), To: c.int(), L: c.list(8), Else: c.int(), M: c.list(8)}}
			for range c.Intn(8) {
				k.Ops = append(k.Ops, c.step())
			}
			f.Blocks = append(f.Blocks, k)
		}
		p.Funcs = append(p.Funcs, f)
	}
	return p
}

// progs are programs made up, the whole one, and the empty ones.
func progs(many int) []*api.Prog {
	c := chance{rand.New(rand.NewSource(5))}
	l := []*api.Prog{{}, {Sigs: []api.Sig{}, Classes: []api.Class{}, Funcs: []api.Func{}}, {Sigs: []api.Sig{{}}, Classes: []api.Class{{}}, Funcs: []api.Func{{}}}, one(), whole()}
	for range many {
		l = append(l, c.prog())
	}
	return l
}
