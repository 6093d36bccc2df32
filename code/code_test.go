package code_test

import (
	"bytes"
	"math"
	"slices"
	"testing"

	"hallmark/api"
	"hallmark/code"
)

// P5.3: Copy.
func TestCopy(t *testing.T) {
	if code.Copy(nil) != nil {
		t.Error("nil")
	}
	for i, p := range progs(300) {
		before := clone(p)
		q := code.Copy(p)
		if !exact(q, stripped(p)) || q == p {
			t.Error(i, q)
		}
		if !exact(p, before) {
			t.Error(i, "Copy changes what it is handed")
		}
		if !exact(code.Copy(q), q) {
			t.Error(i, "a copy of a copy is another one")
		}
	}
}

// TestCopyOfAnything: what has no bytes has a copy all the same; kinds that are none keep their K alone.
func TestCopyOfAnything(t *testing.T) {
	for _, k := range strangers {
		if q := code.Copy(one(full(k), full(api.OpAsk), full(k))); !exact(q, one(api.Op{K: k}, only(full(api.OpAsk)), api.Op{K: k})) {
			t.Error("step", k, q)
		}
		if q := code.Copy(ending(fullEnd(k))); !exact(q, ending(api.End{K: k})) {
			t.Error("end", k, q)
		}
	}
	for _, k := range []int{4, 5} {
		if q := code.Copy(ending(fullEnd(k))); !exact(q, ending(api.End{K: k})) {
			t.Error("end", k, q)
		}
	}
	for _, x := range bounds {
		p := x.with(x.most + 1)
		if q := code.Copy(p); !exact(q, p) {
			t.Error(x.name, q)
		}
	}
}

// ints are all lists of numbers of a program, and what they are in.
func ints(p *api.Prog) []*[]int {
	var l []*[]int
	for i := range p.Sigs {
		l = append(l, &p.Sigs[i].Params)
	}
	for i := range p.Classes {
		l = append(l, &p.Classes[i].Fields, &p.Classes[i].Methods)
	}
	for i := range p.Funcs {
		for j := range p.Funcs[i].Blocks {
			k := &p.Funcs[i].Blocks[j]
			l = append(l, &k.Params, &k.End.L, &k.End.M)
			for at := range k.Ops {
				l = append(l, &k.Ops[at].L)
			}
		}
	}
	return l
}

// scribble writes over all that a program has, spare room too.
func scribble(p *api.Prog) {
	for _, l := range ints(p) {
		whole := (*l)[:cap(*l)]
		for at := range whole {
			whole[at] = -77
		}
	}
	for i := range p.Funcs {
		for j := range p.Funcs[i].Blocks {
			l := p.Funcs[i].Blocks[j].Ops
			smear(l, api.Op{K: -77})
		}
		smear(p.Funcs[i].Blocks, api.Block{Params: []int{-77}})
	}
	smear(p.Sigs, api.Sig{Ret: -77})
	smear(p.Classes, api.Class{Fields: []int{-77}})
	smear(p.Funcs, api.Func{Ret: -77})
}

func smear[T any](l []T, x T) {
	l = l[:cap(l)]
	for at := range l {
		l[at] = x
	}
}

// spare writes over the spare room of all lists alone.
func spare(p *api.Prog) {
	for _, l := range ints(p) {
		smear((*l)[len(*l):], -77)
	}
	for i := range p.Funcs {
		for j := range p.Funcs[i].Blocks {
			l := p.Funcs[i].Blocks[j].Ops
			smear(l[len(l):], api.Op{K: -77})
		}
		l := p.Funcs[i].Blocks
		smear(l[len(l):], api.Block{Params: []int{-77}})
	}
	smear(p.Sigs[len(p.Sigs):], api.Sig{Ret: -77})
	smear(p.Classes[len(p.Classes):], api.Class{Fields: []int{-77}})
	smear(p.Funcs[len(p.Funcs):], api.Func{Ret: -77})
}

// roomy is a program whose lists have spare room; whole's lists L are one list in all steps.
func roomy() *api.Prog {
	p := whole()
	shared := make([]int, 3, 10)
	for _, l := range ints(p) {
		*l = append(make([]int, 0, len(*l)+5), *l...)
	}
	for at := range p.Funcs[0].Blocks[0].Ops {
		p.Funcs[0].Blocks[0].Ops[at].L = shared
	}
	p.Funcs[0].Blocks[1].End.L, p.Funcs[0].Blocks[1].End.M = shared[:1], shared[:2]
	p.Funcs = append(make([]api.Func, 0, 10), p.Funcs...)
	return p
}

// TestNoMemoryShared: what Copy, Decode and Encode answer shares nothing with what they were handed, with another answer, or among its own lists.
func TestNoMemoryShared(t *testing.T) {
	p := roomy()
	b := told(p)
	want := stripped(p)
	q, r := code.Copy(p), code.Copy(p)
	d, err := code.Decode(b)
	e, err2 := code.Decode(b)
	x, err3 := code.Encode(p)
	y, err4 := code.Encode(d)
	if err != api.OK || err2 != api.OK || err3 != api.OK || err4 != api.OK {
		t.Fatal(err, err2, err3, err4)
	}
	for _, s := range []*api.Prog{q, r, d, e} {
		spare(s)
		if !exact(s, want) {
			t.Error("lists of one answer share room")
		}
	}
	smear(x[len(x):], 7)
	scribble(q)
	scribble(d)
	smear(x, 9)
	if !exact(p, roomy()) || !exact(r, want) || !exact(e, want) || !bytes.Equal(y, b) || !bytes.Equal(b, told(p)) {
		t.Error("what is written into one answer is to be seen elsewhere")
	}
	smear(b, 3)
	scribble(p)
	if !exact(r, want) || !exact(e, want) || !bytes.Equal(y, told(want)) {
		t.Error("what is written into an argument is to be seen in an answer")
	}
}

// TestSpareRoomStays: the spare room of what is handed in stays as it is.
func TestSpareRoomStays(t *testing.T) {
	room := func() (*api.Prog, []byte) {
		p := roomy()
		spare(p)
		return p, append(append(make([]byte, 0, 5000), told(p)...), 0xee, 0xee, 0xee)
	}
	p, b := room()
	q, c := room()
	size := len(b) - 3
	code.Encode(p)
	code.Copy(p)
	code.Same(p, q)
	code.Decode(b[:size])
	if !bytes.Equal(b, c) {
		t.Error("Decode writes behind its bytes")
	}
	all, others := ints(p), ints(q)
	for at := range all {
		if !slices.Equal((*all[at])[:cap(*all[at])], (*others[at])[:cap(*others[at])]) {
			t.Error("a list's spare room is changed", at)
		}
	}
	if f := p.Funcs[:cap(p.Funcs)]; f[len(f)-1].Ret != -77 {
		t.Error("the functions' spare room is changed")
	}
}

// P5.3: Same.
func TestSameOfNil(t *testing.T) {
	if !code.Same(nil, nil) {
		t.Error("nil and nil")
	}
	for _, p := range progs(5) {
		if code.Same(nil, p) || code.Same(p, nil) || !code.Same(p, p) {
			t.Error(p)
		}
	}
}

// same holds what Same says of two programs, turned about too, against what it shall say.
func same(t *testing.T, name string, a, b *api.Prog, want bool) {
	t.Helper()
	if code.Same(a, b) != want || code.Same(b, a) != want {
		t.Errorf("Same of programs that part in %s: not %v", name, want)
	}
}

// stepChanges change one field of a step each, the one of the letter.
var stepChanges = []struct {
	letter string
	lay    func(o *api.Op)
}{
	{"A", func(o *api.Op) { o.A++ }},
	{"B", func(o *api.Op) { o.B++ }},
	{"C", func(o *api.Op) { o.C++ }},
	{"N", func(o *api.Op) { o.N++ }},
	{"N", func(o *api.Op) { o.N += 1 << 32 }},
	{"S", func(o *api.Op) { o.S = "t" }},
	{"S", func(o *api.Op) { o.S = "" }},
	{"S", func(o *api.Op) { o.S = "s\x00" }},
	{"L", func(o *api.Op) { o.L[2]++ }},
	{"L", func(o *api.Op) { o.L = o.L[:2] }},
	{"L", func(o *api.Op) { o.L = append(o.L, 0) }},
	{"L", func(o *api.Op) { o.L = nil }},
	{"K", func(o *api.Op) { o.Stack = false }},
}

func TestSameOfSteps(t *testing.T) {
	for k, letters := range plays {
		for _, x := range stepChanges {
			o := full(k)
			x.lay(&o)
			same(t, "a step's "+x.letter, one(full(1), full(k), full(2)), one(full(1), o, full(2)), !bytes.Contains([]byte(letters), []byte(x.letter)))
		}
		for other := range plays {
			same(t, "a step's kind", one(full(k)), one(full(other)), k == other)
			same(t, "a step's kind", one(api.Op{K: k}), one(api.Op{K: other}), k == other)
		}
	}
	for i, k := range strangers {
		for _, x := range stepChanges {
			o := full(k)
			x.lay(&o)
			same(t, "what plays no part", one(full(k)), one(o), true)
		}
		for j, other := range strangers {
			same(t, "kinds that are none", one(full(k)), one(full(other)), i == j)
		}
	}
}

// endChanges change one field of an end each; kinds are those in which it plays a part.
var endChanges = []struct {
	name  string
	kinds []int
	lay   func(e *api.End)
}{
	{"A", []int{1, 2, 3}, func(e *api.End) { e.A++ }},
	{"To", []int{0, 1}, func(e *api.End) { e.To++ }},
	{"Else", []int{1}, func(e *api.End) { e.Else++ }},
	{"L", []int{0, 1}, func(e *api.End) { e.L[1]++ }},
	{"L", []int{0, 1}, func(e *api.End) { e.L = nil }},
	{"M", []int{1}, func(e *api.End) { e.M[0]++ }},
	{"M", []int{1}, func(e *api.End) { e.M = append(e.M, 0) }},
}

func TestSameOfEnds(t *testing.T) {
	kinds := append([]int{0, 1, 2, 3, 4}, strangers...)
	for _, k := range kinds {
		for _, x := range endChanges {
			e := fullEnd(k)
			x.lay(&e)
			same(t, "an end's "+x.name, ending(fullEnd(k)), ending(e), !slices.Contains(x.kinds, k))
		}
		for _, other := range kinds {
			same(t, "an end's kind", ending(fullEnd(k)), ending(fullEnd(other)), k == other)
			same(t, "an end's kind", ending(api.End{K: k}), ending(api.End{K: other}), k == other)
		}
	}
}

func TestSameOfTheRest(t *testing.T) {
	for name, lay := range map[string]func(p *api.Prog){
		"a sig":           func(p *api.Prog) { p.Sigs = p.Sigs[:1] },
		"a sig's params":  func(p *api.Prog) { p.Sigs[0].Params[1]++ },
		"a sig's param":   func(p *api.Prog) { p.Sigs[1].Params = []int{0} },
		"a sig's ret":     func(p *api.Prog) { p.Sigs[1].Ret++ },
		"a class":         func(p *api.Prog) { p.Classes = append(p.Classes, api.Class{}) },
		"a class's field": func(p *api.Prog) { p.Classes[0].Fields[2]++ },
		"class's fields":  func(p *api.Prog) { p.Classes[1].Fields = []int{0} },
		"a class's meth":  func(p *api.Prog) { p.Classes[1].Methods[0]-- },
		"class's methods": func(p *api.Prog) { p.Classes[0].Methods = nil },
		"a function":      func(p *api.Prog) { p.Funcs = p.Funcs[:1] },
		"functions":       func(p *api.Prog) { p.Funcs[0], p.Funcs[1] = p.Funcs[1], p.Funcs[0] },
		"a ret":           func(p *api.Prog) { p.Funcs[1].Ret++ },
		"a block":         func(p *api.Prog) { p.Funcs[1].Blocks = make([]api.Block, 1) },
		"a block's param": func(p *api.Prog) { p.Funcs[0].Blocks[1].Params[0]++ },
		"block's params":  func(p *api.Prog) { p.Funcs[0].Blocks[2].Params = []int{0} },
		"a step":          func(p *api.Prog) { p.Funcs[0].Blocks[3].Ops = make([]api.Op, 1) },
		"no step":         func(p *api.Prog) { p.Funcs[0].Blocks[0].Ops = p.Funcs[0].Blocks[0].Ops[:12] },
	} {
		p := whole()
		lay(p)
		same(t, name, whole(), p, false)
	}
	for _, p := range progs(100) {
		same(t, "nothing", p, clone(p), true)
		same(t, "what plays no part", p, stripped(p), true)
	}
	empty := &api.Prog{Sigs: []api.Sig{{Params: []int{}}}, Classes: []api.Class{}, Funcs: []api.Func{{Blocks: []api.Block{{Params: []int{}, Ops: []api.Op{}, End: api.End{L: []int{}}}}}}}
	none := &api.Prog{Sigs: []api.Sig{{}}, Funcs: []api.Func{{Blocks: []api.Block{{}}}}}
	same(t, "nil and empty lists", empty, none, true)
}

// TestSameIsOneCopy: Same holds just where the copies hold the same.
func TestSameIsOneCopy(t *testing.T) {
	l := progs(40)
	for _, a := range l {
		for _, b := range l {
			same(t, "what was made up", a, b, exact(stripped(a), stripped(b)))
		}
	}
}

// P5.3: Values, First.
func TestValues(t *testing.T) {
	f := api.Func{Blocks: []api.Block{
		{Params: []int{0, 1}, Ops: []api.Op{{K: api.OpInt}, {K: api.OpTell}, {K: api.OpSet}}},
		{Ops: []api.Op{{K: api.OpPut}, {K: 99}}},
		{},
		{Params: []int{6}},
		{Ops: []api.Op{{}}},
		{Params: []int{2, 2, 2}},
	}}
	if n := code.Values(f); n != 12 {
		t.Error(n)
	}
	for block, want := range map[int]int{0: 0, 1: 5, 2: 7, 3: 7, 4: 8, 5: 9, 6: 12, 7: 12, 100: 12, math.MaxInt: 12, -1: 0, -6: 0, math.MinInt: 0} {
		if n := code.First(f, block); n != want {
			t.Errorf("First of block %d: %d, want %d", block, n, want)
		}
	}
	for _, none := range []api.Func{{}, {Ret: 3, Blocks: []api.Block{}}, {Blocks: make([]api.Block, 3)}} {
		if code.Values(none) != 0 || code.First(none, 0) != 0 || code.First(none, 2) != 0 || code.First(none, 9) != 0 || code.First(none, -9) != 0 {
			t.Error(none)
		}
	}
	many := api.Func{Blocks: slices.Repeat([]api.Block{{Params: make([]int, 300), Ops: make([]api.Op, 2000)}}, 100)}
	if code.Values(many) != 230000 || code.First(many, 99) != 227700 {
		t.Error("values beyond the bounds are counted all the same")
	}
}
