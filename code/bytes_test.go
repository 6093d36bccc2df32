package code_test

import (
	"bytes"
	"fmt"
	"math"
	"math/rand"
	"slices"
	"strings"
	"testing"

	"hallmark/api"
	"hallmark/code"
)

// encodes holds what Encode answers against bytes, or an error.
func encodes(t *testing.T, name string, p *api.Prog, want []byte, err api.Errno) {
	t.Helper()
	if b, e := code.Encode(p); e != err || !bytes.Equal(b, want) || e != api.OK && b != nil {
		t.Errorf("%s: Encode: error %d, %d bytes %x, want error %d, %x", name, e, len(b), brief(b), err, brief(want))
	}
}

// decodes holds what Decode answers against a program (nil beside an error).
func decodes(t *testing.T, name string, b []byte, want *api.Prog, err api.Errno) {
	t.Helper()
	if p, e := code.Decode(b); e != err || !exact(p, want) {
		t.Errorf("%s: Decode of %x: error %d, %+v, want error %d, %+v", name, brief(b), e, p, err, want)
	}
}

func brief(b []byte) []byte { return b[:min(len(b), 80)] }

// P5.1: bytes written out by hand. Each step is full: what plays no part in it holds something, and is not to be seen.
var stepBytes = []string{
	"00 0e", "02 0e", "04 02 73", "06 0e 08 0a", "08 08", "0a 08 0a", "0c 08", "0e 08 0a", "10 08 0a", "12 0e 06 10 12 14 02",
	"14 0e 08", "16 0e 08 0a", "18 0e 02", "1a 08", "1c 08", "1e 08 0a", "20 08 0a 0c", "22 02", "24 08 0a 0c", "26 08 0a",
	"28 08", "2a 08 0a", "2c 08", "2e 0e 06 10 12 14", "30 0e 08 06 10 12 14", "32 08",
}

var endBytes = []string{"00 0a 04 0e 10", "02 08 0a 04 0e 10 0c 02 12", "04 08", "06 08"}

func TestBytesOfEachStep(t *testing.T) {
	if len(stepBytes) != api.Ops {
		t.Fatal(len(stepBytes))
	}
	for k, s := range stepBytes {
		o := full(k)
		b := hexed("00|00|02|00|02|00|02|" + s + "|04 00")
		encodes(t, fmt.Sprint("step ", k), one(o), b, api.OK)
		decodes(t, fmt.Sprint("step ", k), b, one(only(o)), api.OK)
	}
	for k, s := range map[int]string{api.OpNew: "12 0e 06 10 12 14 00", api.OpMake: "18 0e 00", api.OpTable: "22 00"} {
		o := full(k)
		o.Stack = false
		b := hexed("00|00|02|00|02|00|02|" + s + "|04 00")
		encodes(t, "on the heap", one(o), b, api.OK)
		decodes(t, "on the heap", b, one(only(o)), api.OK)
	}
}

func TestBytesOfEachEnd(t *testing.T) {
	for k, s := range endBytes {
		b := hexed("00|00|02|00|02|00|00|" + s)
		encodes(t, fmt.Sprint("end ", k), ending(fullEnd(k)), b, api.OK)
		decodes(t, fmt.Sprint("end ", k), b, stripped(ending(fullEnd(k))), api.OK)
	}
}

func TestBytesOfAProgram(t *testing.T) {
	even, odd := "", ""
	for k := 0; k < api.Ops; k += 2 {
		even += stepBytes[k]
		odd += stepBytes[k+1]
	}
	b := hexed("04 | 04 00 0a 01 | 00 04 |" + // two sigs
		"04 | 06 00 0c 06 04 02 01 | 00 04 01 7f |" + // two classes
		"04 | 00 08 |" + // two functions; the first one has four blocks
		"04 00 02 1a" + even + endBytes[0] +
		"02 0c 1a" + odd + endBytes[1] +
		"00 00" + endBytes[2] +
		"00 00" + endBytes[3] +
		"01 00") // the second one has none
	encodes(t, "whole", whole(), b, api.OK)
	decodes(t, "whole", b, stripped(whole()), api.OK)
	encodes(t, "nothing", new(api.Prog), hexed("00 00 00"), api.OK)
	decodes(t, "nothing", hexed("00 00 00"), new(api.Prog), api.OK)
	ret := &api.Prog{Funcs: []api.Func{{Ret: 0, Blocks: []api.Block{{Ops: []api.Op{{K: api.OpInt, N: 7}}, End: api.End{K: api.EndRet}}}}}}
	encodes(t, "7", ret, hexed("00 00 02 00 02 00 02 00 0e 04 00"), api.OK)
	decodes(t, "7", hexed("00 00 02 00 02 00 02 00 0e 04 00"), ret, api.OK)
}

// TestNumbersAreWhole: numbers have no bounds of their own but those that the chapter names.
func TestNumbersAreWhole(t *testing.T) {
	for _, n := range []int{0, 1, -1, 63, 64, -64, -65, math.MaxInt32 + 1, math.MinInt32 - 1, math.MaxInt, math.MinInt} {
		p := whole()
		p.Sigs[0], p.Classes[0] = api.Sig{Params: []int{n, n}, Ret: n}, api.Class{Fields: []int{n}, Methods: []int{n, n}}
		f := &p.Funcs[0]
		f.Ret = n
		for j := range f.Blocks {
			f.Blocks[j].Params = []int{n}
			e := &f.Blocks[j].End
			e.A, e.To, e.Else, e.L, e.M = n, n, n, []int{n, n}, []int{n}
			for at := range f.Blocks[j].Ops {
				o := &f.Blocks[j].Ops[at]
				o.A, o.B, o.C, o.N, o.L = n, n, n, int64(n), []int{n, n, n}
			}
		}
		b := told(p)
		encodes(t, fmt.Sprint(n), p, b, api.OK)
		decodes(t, fmt.Sprint(n), b, stripped(p), api.OK)
	}
}

// P5.2: bounds. Each is a program in which something is so many, and how many may be.
var bounds = []struct {
	name string
	most int
	with func(n int) *api.Prog
}{
	{"sigs", 4, func(n int) *api.Prog { return &api.Prog{Sigs: make([]api.Sig, n)} }},
	{"params of a sig", 8, func(n int) *api.Prog { return &api.Prog{Sigs: []api.Sig{{Params: make([]int, n)}}} }},
	{"classes", 8, func(n int) *api.Prog { return &api.Prog{Classes: make([]api.Class, n)} }},
	{"fields", 8, func(n int) *api.Prog { return &api.Prog{Classes: []api.Class{{Fields: make([]int, n)}}} }},
	{"methods", 4, func(n int) *api.Prog { return &api.Prog{Classes: []api.Class{{Methods: make([]int, n)}}} }},
	{"functions", 16, func(n int) *api.Prog { return &api.Prog{Funcs: make([]api.Func, n)} }},
	{"blocks", 40, func(n int) *api.Prog { return &api.Prog{Funcs: []api.Func{{Blocks: make([]api.Block, n)}}} }},
	{"params of a block", 8, func(n int) *api.Prog {
		return &api.Prog{Funcs: []api.Func{{Blocks: []api.Block{{Params: make([]int, n)}}}}}
	}},
	{"steps", 700, func(n int) *api.Prog { return one(make([]api.Op, n)...) }},
	{"bytes of a text", 64, func(n int) *api.Prog { return one(api.Op{K: api.OpText, S: strings.Repeat("\x80", n)}) }},
	{"values of new", 8, func(n int) *api.Prog { return one(api.Op{K: api.OpNew, L: make([]int, n)}) }},
	{"values of call", 8, func(n int) *api.Prog { return one(api.Op{K: api.OpCall, L: make([]int, n)}) }},
	{"values of ask", 8, func(n int) *api.Prog { return one(api.Op{K: api.OpAsk, L: make([]int, n)}) }},
	{"values of a jump", 8, func(n int) *api.Prog { return ending(api.End{K: api.EndJump, L: make([]int, n)}) }},
	{"values of a branch", 8, func(n int) *api.Prog { return ending(api.End{K: api.EndBranch, L: make([]int, n)}) }},
	{"other values of a branch", 8, func(n int) *api.Prog { return ending(api.End{K: api.EndBranch, M: make([]int, n)}) }},
}

func TestBounds(t *testing.T) {
	for _, x := range bounds {
		for n := range x.most + 1 {
			p := x.with(n)
			encodes(t, fmt.Sprint(n, " ", x.name), p, told(p), api.OK)
			decodes(t, fmt.Sprint(n, " ", x.name), told(p), p, api.OK)
		}
		for _, n := range []int{x.most + 1, x.most + 2, 2*x.most + 1, 256, 256 + x.most, 1000} {
			if n > x.most {
				encodes(t, fmt.Sprint(n, " ", x.name), x.with(n), nil, api.ErrLong)
				decodes(t, fmt.Sprint(n, " ", x.name), told(x.with(n)), nil, api.ErrLong)
			}
		}
	}
}

// TestBoundsOfWhatPlaysNoPart: lists and texts that play no part are as long as they like.
func TestBoundsOfWhatPlaysNoPart(t *testing.T) {
	for k := range api.Ops {
		o := full(k)
		if !strings.Contains(plays[k], "L") {
			o.L = make([]int, 100)
		}
		if !strings.Contains(plays[k], "S") {
			o.S = strings.Repeat("x", 5000)
		}
		encodes(t, fmt.Sprint("step ", k), one(o), told(one(o)), api.OK)
	}
	for k := range 4 {
		e := api.End{K: k, M: make([]int, 9), L: make([]int, 9)}
		if k < 2 {
			e.L = nil
		}
		if k == 1 {
			e.M = nil
		}
		encodes(t, fmt.Sprint("end ", k), ending(e), told(ending(e)), api.OK)
	}
}

// TestKindsThatAreNone: of steps and of ends, written and read.
func TestKindsThatAreNone(t *testing.T) {
	for _, k := range strangers {
		encodes(t, fmt.Sprint("step ", k), one(full(k)), nil, api.ErrForm)
		b := slices.Concat(hexed("00 00 02 00 02 00 02"), number(int64(k)), hexed("00 00 00 00"))
		decodes(t, fmt.Sprint("step ", k), b, nil, api.ErrForm)
	}
	for _, k := range append([]int{4, 5, 6, 7, 8}, strangers...) {
		encodes(t, fmt.Sprint("end ", k), ending(fullEnd(k)), nil, api.ErrForm)
		b := slices.Concat(hexed("00 00 02 00 02 00 00"), number(int64(k)), hexed("00 00 00 00"))
		decodes(t, fmt.Sprint("end ", k), b, nil, api.ErrForm)
	}
}

// piece is a part of a program's bytes: a number (with what else may stand there, and the error of that), or the bytes of a text.
type piece struct {
	good []byte
	bad  []wrong
}

type wrong struct {
	bytes []byte
	err   api.Errno
}

// num is a number that may be anything in wire's form.
func num(n int64) piece {
	good := number(n)
	turned := slices.Clone(good)
	turned[len(turned)-1] |= 128
	return piece{good, []wrong{
		{append(turned, 0), api.ErrForm},
		{hexed("80 00"), api.ErrForm},
		{hexed("80 80 80 80 80 80 80 80 80 02"), api.ErrForm},
		{hexed("ff ff ff ff ff ff ff ff ff 80 01"), api.ErrForm},
	}}
}

// also is a number that may not be any of l, with that error.
func (p piece) also(err api.Errno, l ...int64) piece {
	for _, n := range l {
		p.bad = append(p.bad, wrong{number(n), err})
	}
	return p
}

// count says how many there are of something.
func count(n, most int64) piece {
	return num(n).also(api.ErrForm, -1, -2, -64, -65, math.MinInt64).also(api.ErrLong, most+1, most+2, most+256, 1<<32, math.MaxInt64)
}

// choice is one of so many.
func choice(n, many int64) piece {
	return num(n).also(api.ErrForm, -1, -2, many, many+1, many+256, 1<<32+n, math.MaxInt64, math.MinInt64)
}

// wholePieces are the bytes of a program in which each thing stands that has a form or a bound.
func wholePieces() []piece {
	text := piece{good: []byte("ab")}
	return slices.Concat(
		[]piece{count(1, 4), count(1, 8), num(0), num(-1)},
		[]piece{count(1, 8), count(2, 8), num(0), num(300), count(1, 4), num(-1)},
		[]piece{count(2, 16), num(0), count(3, 40)},
		[]piece{count(1, 8), num(0), count(6, 700)},
		[]piece{choice(api.OpText, 26), count(2, 64), text},
		[]piece{choice(api.OpNew, 26), num(0), count(2, 8), num(0), num(1), choice(1, 2)},
		[]piece{choice(api.OpPut, 26), num(1000), num(-1000), num(math.MaxInt64)},
		[]piece{choice(api.OpTable, 26), choice(0, 2)},
		[]piece{choice(api.OpAsk, 26), num(math.MinInt64), num(0), count(1, 8), num(7)},
		[]piece{choice(api.OpCall, 26), num(1), count(0, 8)},
		[]piece{choice(api.EndJump, 4), num(1), count(1, 8), num(0)},
		[]piece{count(0, 8), count(1, 700), choice(api.OpMake, 26), num(128), choice(1, 2)},
		[]piece{choice(api.EndBranch, 4), num(64), num(0), count(1, 8), num(64), num(2), count(2, 8), num(0), num(-5)},
		[]piece{count(0, 8), count(0, 700), choice(api.EndRet, 4), num(7)},
		[]piece{num(-1), count(1, 40), count(0, 8), count(0, 700), choice(api.EndStop, 4), num(0)},
	)
}

// laid is pieces, one behind the other, but for those that stand in their places.
func laid(l []piece, instead map[int][]byte) []byte {
	var b []byte
	for at, x := range l {
		if other, there := instead[at]; there {
			b = append(b, other...)
		} else {
			b = append(b, x.good...)
		}
	}
	return b
}

// TestFirstErrorOfBytes: each number turned, and any two of them: the error is that of the one that stands ahead.
func TestFirstErrorOfBytes(t *testing.T) {
	l := wholePieces()
	good := laid(l, nil)
	p, err := code.Decode(good)
	if err != api.OK || !bytes.Equal(told(p), good) {
		t.Fatal(err, p)
	}
	for at, x := range l {
		for _, w := range x.bad {
			decodes(t, fmt.Sprint("piece ", at), laid(l, map[int][]byte{at: w.bytes}), nil, w.err)
			decodes(t, fmt.Sprint("piece ", at, " and an end"), append(laid(l[:at], nil), w.bytes...), nil, w.err)
			for to := at + 1; to < len(l); to++ {
				for _, v := range l[to].bad {
					if v.err != w.err {
						decodes(t, fmt.Sprint("pieces ", at, ", ", to), laid(l, map[int][]byte{at: w.bytes, to: v.bytes}), nil, w.err)
					}
				}
			}
		}
	}
}

// TestFirstErrorOfAProgram: faults in the order of the bytes, each alone, and any two of them.
func TestFirstErrorOfAProgram(t *testing.T) {
	block := func(p *api.Prog, at int) *api.Block { return &p.Funcs[0].Blocks[at] }
	long := make([]int, 9)
	faults := []struct {
		name string
		err  api.Errno
		lay  func(p *api.Prog)
	}{
		{"sigs", api.ErrLong, func(p *api.Prog) { p.Sigs = append(p.Sigs, make([]api.Sig, 4)...) }},
		{"params of a sig", api.ErrLong, func(p *api.Prog) { p.Sigs[0].Params = long }},
		{"classes", api.ErrLong, func(p *api.Prog) { p.Classes = append(p.Classes, make([]api.Class, 8)...) }},
		{"fields", api.ErrLong, func(p *api.Prog) { p.Classes[0].Fields = long }},
		{"methods", api.ErrLong, func(p *api.Prog) { p.Classes[0].Methods = long[:5] }},
		{"functions", api.ErrLong, func(p *api.Prog) { p.Funcs = append(p.Funcs, make([]api.Func, 15)...) }},
		{"blocks", api.ErrLong, func(p *api.Prog) { p.Funcs[0].Blocks = append(p.Funcs[0].Blocks, make([]api.Block, 37)...) }},
		{"params of a block", api.ErrLong, func(p *api.Prog) { block(p, 0).Params = long }},
		{"steps", api.ErrLong, func(p *api.Prog) { block(p, 0).Ops = append(block(p, 0).Ops, make([]api.Op, 700)...) }},
		{"kind of a step", api.ErrForm, func(p *api.Prog) { block(p, 0).Ops[0].K = -1 }},
		{"text", api.ErrLong, func(p *api.Prog) { block(p, 0).Ops[2].S = strings.Repeat("x", 65) }},
		{"new", api.ErrLong, func(p *api.Prog) { block(p, 0).Ops[9].L = long }},
		{"kind of another step", api.ErrForm, func(p *api.Prog) { block(p, 0).Ops[11].K = 26 }},
		{"call", api.ErrLong, func(p *api.Prog) { block(p, 0).Ops[23].L = long }},
		{"ask", api.ErrLong, func(p *api.Prog) { block(p, 0).Ops[24].L = long }},
		{"jump", api.ErrLong, func(p *api.Prog) { block(p, 0).End.L = long }},
		{"branch", api.ErrLong, func(p *api.Prog) { block(p, 1).End.L = long }},
		{"branch else", api.ErrLong, func(p *api.Prog) { block(p, 1).End.M = long }},
		{"kind of an end", api.ErrForm, func(p *api.Prog) { block(p, 2).End.K = 4 }},
		{"params of a late block", api.ErrLong, func(p *api.Prog) { p.Funcs[1].Blocks[0].Params = long }},
		{"kind of a late end", api.ErrForm, func(p *api.Prog) { p.Funcs[1].Blocks[0].End.K = -1 }},
	}
	for i, x := range faults {
		for j, y := range faults {
			p := &api.Prog{Sigs: make([]api.Sig, 1), Classes: make([]api.Class, 1), Funcs: []api.Func{{Blocks: make([]api.Block, 4)}, {Blocks: make([]api.Block, 1)}}}
			for k := range api.Ops {
				block(p, 0).Ops = append(block(p, 0).Ops, full(k))
			}
			block(p, 1).End.K = api.EndBranch
			if _, err := code.Encode(p); err != api.OK {
				t.Fatal(err)
			}
			x.lay(p)
			y.lay(p)
			encodes(t, x.name+", "+y.name, p, nil, faults[min(i, j)].err)
		}
	}
}

// sized is a program of so many bytes.
func sized(t *testing.T, n int) *api.Prog {
	t.Helper()
	p := one(slices.Repeat([]api.Op{{K: api.OpText, S: strings.Repeat("x", 64)}}, 700)...)
	last := api.Block{Ops: slices.Repeat([]api.Op{{K: api.OpText, S: strings.Repeat("y", 64)}}, 270), End: api.End{K: api.EndStop}}
	p.Funcs[0].Blocks = append(p.Funcs[0].Blocks, last)
	ops := &p.Funcs[0].Blocks[1].Ops
	for left := n - len(told(p)); left > 0; {
		o := api.Op{K: api.OpInt, N: 1}
		if left == 3 {
			o.N = 64
		}
		*ops = append(*ops, o)
		left -= len(step(o))
	}
	if len(told(p)) != n {
		t.Fatal(len(told(p)), n)
	}
	return p
}

func TestJustSoManyBytes(t *testing.T) {
	for _, n := range []int{api.MaxBytes - 2, api.MaxBytes - 1, api.MaxBytes} {
		p := sized(t, n)
		encodes(t, fmt.Sprint(n), p, told(p), api.OK)
		decodes(t, fmt.Sprint(n), told(p), p, api.OK)
	}
	for _, n := range []int{api.MaxBytes + 1, api.MaxBytes + 2, api.MaxBytes + 100} {
		p := sized(t, n)
		encodes(t, fmt.Sprint(n), p, nil, api.ErrLong)
		decodes(t, fmt.Sprint(n), told(p), nil, api.ErrLong)
		decodes(t, "bytes that are none from the first on", bytes.Repeat([]byte{1}, n), nil, api.ErrLong)
		decodes(t, "a number in no form", bytes.Repeat([]byte{0xff}, n), nil, api.ErrLong)
	}
	full := told(sized(t, api.MaxBytes))
	decodes(t, "one byte less", full[:api.MaxBytes-1], nil, api.ErrShort)
	decodes(t, "just so many, and none", bytes.Repeat([]byte{1}, api.MaxBytes), nil, api.ErrForm)
	decodes(t, "just so many, one left", append(told(sized(t, api.MaxBytes-1)), 0), nil, api.ErrForm)
}

// TestTooManyBytesComesLast: bounds and forms are ahead of how many bytes there are, wherever they stand.
func TestTooManyBytesComesLast(t *testing.T) {
	p := sized(t, api.MaxBytes+1)
	p.Funcs[0].Blocks[1].End.K = 4
	encodes(t, "end", p, nil, api.ErrForm)
	p = sized(t, api.MaxBytes+1)
	ops := p.Funcs[0].Blocks[1].Ops
	ops[len(ops)-1].K = 26
	encodes(t, "step", p, nil, api.ErrForm)
	// As many of all as there may be, of the longest steps.
	longest := api.Op{K: api.OpAsk, A: math.MinInt, N: math.MinInt64, L: slices.Repeat([]int{math.MinInt}, 8)}
	block := api.Block{Params: longest.L, Ops: slices.Repeat([]api.Op{longest}, 700)}
	most := &api.Prog{Funcs: slices.Repeat([]api.Func{{Blocks: slices.Repeat([]api.Block{block}, 40)}}, 16)}
	encodes(t, "most", most, nil, api.ErrLong)
	most.Funcs[15].Blocks = append(slices.Clone(most.Funcs[15].Blocks[:39]), api.Block{End: api.End{K: -1}})
	encodes(t, "most, and an end", most, nil, api.ErrForm)
}

func TestNoProgram(t *testing.T) {
	encodes(t, "nil", nil, nil, api.ErrArg)
	decodes(t, "no bytes", nil, nil, api.ErrShort)
	decodes(t, "no bytes", []byte{}, nil, api.ErrShort)
}

// TestBytesLeft: whatever stands behind a program's bytes is too much.
func TestBytesLeft(t *testing.T) {
	for _, p := range progs(60) {
		for _, left := range []string{"00", "01", "80", "ff", "00 00 00", "80 00"} {
			decodes(t, "left", append(told(p), hexed(left)...), nil, api.ErrForm)
		}
	}
}

// P5.4: what is written is read again, and what is read is written again.
func TestThereAndBack(t *testing.T) {
	for i, p := range progs(600) {
		before := clone(p)
		b, err := code.Encode(p)
		if err != api.OK || !bytes.Equal(b, told(p)) {
			t.Fatal(i, err)
		}
		if !exact(p, before) {
			t.Fatal(i, "Encode changes what it is handed")
		}
		q, err := code.Decode(b)
		if err != api.OK || !exact(q, code.Copy(p)) || !exact(q, stripped(p)) {
			t.Fatal(i, err)
		}
		if !bytes.Equal(b, told(p)) {
			t.Fatal(i, "Decode changes what it is handed")
		}
		if c, err := code.Encode(q); err != api.OK || !bytes.Equal(b, c) {
			t.Fatal(i, err)
		}
	}
}

// TestAnyBytes: bytes of programs with some of them changed, lost or doubled: what Decode says of them, and that they are written again if they are a program's.
func TestAnyBytes(t *testing.T) {
	c := rand.New(rand.NewSource(7))
	programs := 0
	for _, p := range progs(120) {
		good := told(p)
		for range 200 {
			b := slices.Clone(good)
			for range 1 + c.Intn(3) {
				at := c.Intn(len(b))
				switch c.Intn(4) {
				case 0:
					b[at] = byte(c.Intn(256))
				case 1:
					b[at] ^= 1 << c.Intn(8)
				case 2:
					b = slices.Insert(b, at, byte(c.Intn(8)))
				case 3:
					b = append(slices.Delete(b, at, at+1), byte(c.Intn(4)))
				}
			}
			want, err := read(b)
			decodes(t, "changed", b, want, err)
			if err == api.OK {
				programs++
				encodes(t, "read", want, b, api.OK)
			}
		}
	}
	if programs < 1000 {
		t.Error("too few were programs:", programs)
	}
}

// TestFewBytes: any two bytes, and up to four that are less than 16.
func TestFewBytes(t *testing.T) {
	var b [4]byte
	for n := range 1 << 16 {
		b[0], b[1] = byte(n), byte(n>>8)
		want, err := read(b[:2])
		decodes(t, "two", b[:2], want, err)
		b[0], b[1], b[2], b[3] = byte(n&15), byte(n>>4&15), byte(n>>8&15), byte(n>>12)
		for size := range 5 {
			want, err = read(b[:size])
			decodes(t, "few", b[:size], want, err)
		}
	}
}

// P5.5: no beginning of a program's bytes is a program's.
func TestEachBeginning(t *testing.T) {
	for _, p := range append(progs(40), sized(t, 65100)) {
		b := told(p)
		for n := range b {
			if n > 4000 && n < len(b)-200 && n%97 != 0 {
				continue
			}
			if q, err := code.Decode(b[:n]); q != nil || err != api.ErrShort {
				t.Fatal(n, len(b), err)
			}
		}
	}
}
