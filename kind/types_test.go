package kind_test

import (
	"fmt"
	"math"
	"slices"
	"strings"
	"testing"

	"hallmark/api"
	"hallmark/kind"
)

// world is a program, always the same, in memory of its own: classes with fields and without any, a function without blocks, one whose second block has other parameters, methods.
func world() *api.Prog {
	block := func(params ...int) api.Block { return api.Block{Params: params} }
	return &api.Prog{
		Sigs: []api.Sig{
			{Ret: api.TNone},
			{Params: []int{api.TInt, api.TText}, Ret: api.TBool},
			{Params: []int{api.TPtr + 1}, Ret: api.TPtr},
		},
		Classes: []api.Class{
			{Fields: []int{api.TInt, api.TText, api.TPtr + 1}, Methods: []int{-1, -1, -1}},
			{Methods: []int{2, -1, -1}},
			{Fields: []int{api.TFace, api.TSlice, api.TTable, api.TBool, api.TPtr + 2, api.TInt, api.TInt, api.TText}, Methods: []int{-1, -1, -1}},
		},
		Funcs: []api.Func{
			{Ret: api.TInt, Blocks: []api.Block{block(api.TInt)}},
			{Ret: api.TInt},
			{Ret: api.TNone, Blocks: []api.Block{block()}},
			{Ret: api.TText, Blocks: []api.Block{block(api.TText, api.TPtr, api.TFace), block(api.TInt)}},
			{Ret: api.TPtr + 2, Blocks: []api.Block{block(api.TBool, api.TInt, api.TInt, api.TSlice, api.TTable, api.TPtr+2, api.TText, api.TFace), block()}},
		},
	}
}

// typeList has each type of world's, a pointer to a class that it has not, values that are nothing, and numbers that are no types.
func typeList() []int {
	return []int{api.TInt, api.TBool, api.TText, api.TSlice, api.TTable, api.TFace, api.TPtr, api.TPtr + 1, api.TPtr + 2, api.TPtr + 3, api.TNone, api.TInt, api.TText, 99, -2}
}

// The numbers of typeList's values, named by their types.
const (
	vInt   = 0
	vBool  = 1
	vText  = 2
	vSlice = 3
	vTable = 4
	vFace  = 5
	vPtr0  = 6
	vPtr1  = 7
	vPtr2  = 8
	vPtr3  = 9
	vNone  = 10
	vInt2  = 11
	vText2 = 12
)

// simple are the table's rows that hang on the types of A, B and C alone.
var simple = map[int]struct {
	wants []int
	comes int
}{
	api.OpNot:   {[]int{api.TBool}, api.TBool},
	api.OpCat:   {[]int{api.TText, api.TText}, api.TText},
	api.OpAlike: {[]int{api.TText, api.TText}, api.TBool},
	api.OpLong:  {[]int{api.TText}, api.TInt},
	api.OpByte:  {[]int{api.TText, api.TInt}, api.TInt},
	api.OpRoom:  {[]int{api.TInt}, api.TSlice},
	api.OpSize:  {[]int{api.TSlice}, api.TInt},
	api.OpAt:    {[]int{api.TSlice, api.TInt}, api.TInt},
	api.OpPut:   {[]int{api.TSlice, api.TInt, api.TInt}, api.TNone},
	api.OpEnter: {[]int{api.TTable, api.TInt, api.TInt}, api.TNone},
	api.OpLook:  {[]int{api.TTable, api.TInt}, api.TInt},
	api.OpKey:   {[]int{api.TTable, api.TInt}, api.TInt},
	api.OpCount: {[]int{api.TTable}, api.TInt},
}

// result is what the chapter says of Result.
func result(p *api.Prog, o api.Op, types []int) (int, bool) {
	if p == nil {
		p = &api.Prog{}
	}
	var got []int
	for _, value := range used(o) {
		if value < 0 || value >= len(types) {
			return api.TNone, false
		}
		got = append(got, types[value])
	}
	wants, comes, can := wanted(p, o, got)
	if !can || !slices.Equal(got, wants) {
		return api.TNone, false
	}
	return comes, true
}

// wanted is what the types of all values that a step is of must be, beside theirs as they are; what comes; and whether the rest is as it must be.
func wanted(p *api.Prog, o api.Op, got []int) ([]int, int, bool) {
	if row, ok := simple[o.K]; ok {
		return row.wants, row.comes, true
	}
	switch o.K {
	case api.OpInt:
		return nil, api.TInt, true
	case api.OpBool:
		return nil, api.TBool, o.N == 0 || o.N == 1
	case api.OpText:
		return nil, api.TText, len(o.S) <= 64
	case api.OpTable:
		return nil, api.TTable, true
	case api.OpMake:
		return nil, api.TSlice, o.N >= 0 && o.N <= 128
	case api.OpArith:
		if o.N >= 10 {
			return []int{api.TInt, api.TInt}, api.TBool, o.N <= 13
		}
		return []int{api.TInt, api.TInt}, api.TInt, o.N >= 0
	case api.OpTell:
		return got, api.TNone, got[0] == api.TInt || got[0] == api.TText
	}
	return wantedOf(p, o, got)
}

// wantedOf is the same of steps that hang on classes, functions and methods.
func wantedOf(p *api.Prog, o api.Op, got []int) ([]int, int, bool) {
	is := func(many int) bool { return o.N >= 0 && o.N < int64(many) }
	class := -1
	if o.K == api.OpGet || o.K == api.OpSet || o.K == api.OpFace {
		if got[0] >= api.TPtr && got[0] < api.TPtr+len(p.Classes) {
			class = got[0] - api.TPtr
		}
	}
	switch {
	case o.K == api.OpNew && is(len(p.Classes)):
		return p.Classes[o.N].Fields, api.TPtr + int(o.N), true
	case o.K == api.OpGet && class >= 0 && is(len(p.Classes[class].Fields)):
		return got, p.Classes[class].Fields[o.N], true
	case o.K == api.OpSet && class >= 0 && is(len(p.Classes[class].Fields)):
		return []int{got[0], p.Classes[class].Fields[o.N]}, api.TNone, true
	case o.K == api.OpFace && class >= 0:
		return got, api.TFace, true
	case o.K == api.OpCall && is(len(p.Funcs)) && len(p.Funcs[o.N].Blocks) > 0:
		return p.Funcs[o.N].Blocks[0].Params, p.Funcs[o.N].Ret, true
	case o.K == api.OpAsk && is(len(p.Sigs)):
		return append([]int{api.TFace}, p.Sigs[o.N].Params...), p.Sigs[o.N].Ret, true
	}
	return nil, 0, false
}

// numbers are edges of N: of truths, signs, slices that are made, classes, fields, functions and methods.
func numbers() []int64 {
	l := []int64{math.MinInt64, math.MinInt64 + 1, -1 << 32, -1<<32 + 1, -128, 64, 127, 128, 129, 130, 1 << 8, 1 << 16, 1 << 32, 1<<32 + 1, 1<<32 + 12, 1<<32 + 128, math.MaxInt64}
	for n := int64(-3); n <= 17; n++ {
		l = append(l, n)
	}
	return l
}

// valuesOf are all values of types, and numbers that are none.
func valuesOf(types []int) []int {
	l := []int{math.MinInt, -1 << 32, -2, -1, len(types), len(types) + 1, 1 << 32, math.MaxInt}
	for value := range types {
		l = append(l, value)
	}
	return l
}

// good is a list of values of these types.
func good(types, wants []int) []int {
	var l []int
	for _, want := range wants {
		l = append(l, slices.Index(types, want))
	}
	return l
}

// turns are lists to which the one that is good is turned: itself, each place of each other value, one less on either side, one more on either side, turned about.
func turns(types, list []int) [][]int {
	l := [][]int{list}
	back := slices.Clone(list)
	slices.Reverse(back)
	l = append(l, back)
	for _, value := range valuesOf(types) {
		l = append(l, append(slices.Clone(list), value), append([]int{value}, list...))
		for at := range list {
			turned := slices.Clone(list)
			turned[at] = value
			l = append(l, turned)
		}
	}
	if len(list) > 0 {
		l = append(l, list[1:], list[:len(list)-1])
	}
	return l
}

// listsOf are lists for L: all that p's classes, blocks and methods want, and what these are turned to.
func listsOf(p *api.Prog, types []int) [][]int {
	l := [][]int{nil, {}}
	for _, c := range p.Classes {
		l = append(l, turns(types, good(types, c.Fields))...)
	}
	for _, f := range p.Funcs {
		for _, b := range f.Blocks {
			l = append(l, turns(types, good(types, b.Params))...)
		}
	}
	for _, s := range p.Sigs {
		l = append(l, turns(types, good(types, s.Params))...)
	}
	return l
}

// steps are all steps of a kind of which the fields that play a part hold each of these; the others hold something.
func steps(p *api.Prog, k int, types []int, yield func(api.Op)) {
	letters := plays(k)
	pick := func(letter string, all, one []int) []int {
		if strings.Contains(letters, letter) {
			return all
		}
		return one
	}
	texts, ns, lists := []string{"s"}, []int64{1}, [][]int{{99}}
	if strings.Contains(letters, "S") {
		texts = []string{"", "a", strings.Repeat("x", 63), strings.Repeat("x", 64), strings.Repeat("x", 65), strings.Repeat("\xff", 64), strings.Repeat("\x00", 65), strings.Repeat("é", 32), strings.Repeat("é", 33), strings.Repeat("y", 5000)}
	}
	if strings.Contains(letters, "N") {
		ns = numbers()
	}
	if strings.Contains(letters, "L") {
		lists = listsOf(p, types)
	}
	all := valuesOf(types)
	for _, a := range pick("A", all, []int{-7}) {
		for _, b := range pick("B", all, []int{-8}) {
			for _, c := range pick("C", all, []int{1000}) {
				for _, n := range ns {
					for _, s := range texts {
						for _, l := range lists {
							yield(api.Op{K: k, A: a, B: b, C: c, N: n, S: s, L: l, Stack: true})
						}
					}
				}
			}
		}
	}
}

// told is a step for a message.
func told(o api.Op, types []int) string {
	name := func(value int) string {
		if value < 0 || value >= len(types) {
			return fmt.Sprint(value, " (none)")
		}
		return fmt.Sprint(value, " (type ", types[value], ")")
	}
	var l []string
	for _, value := range used(o) {
		l = append(l, name(value))
	}
	return fmt.Sprintf("kind %d, N %d, S of %d bytes, of %s", o.K, o.N, len(o.S), strings.Join(l, ", "))
}

// held holds Result of a step against what the chapter says.
func held(t *testing.T, p *api.Prog, o api.Op, types []int) bool {
	t.Helper()
	got, can := kind.Result(p, o, types)
	want, may := result(p, o, types)
	if got != want || can != may {
		t.Errorf("Result of %s: %d, %v, not %d, %v", told(o, types), got, can, want, may)
	}
	return can
}

func TestP4_3ResultOfAllSteps(t *testing.T) {
	p, types := world(), typeList()
	for k := range api.Ops {
		are, wrong := 0, 0
		steps(p, k, types, func(o api.Op) {
			if t.Failed() {
				return
			}
			if held(t, p, o, types) {
				are++
			} else {
				wrong++
			}
		})
		if are == 0 || wrong == 0 && k != api.OpInt && k != api.OpTable {
			t.Fatalf("kind %d: %d can be, %d can't: the sweep misses something", k, are, wrong)
		}
	}
}

func TestP4_3ResultOfNoProgram(t *testing.T) {
	types := typeList()
	p := world()
	for k := range api.Ops {
		steps(p, k, types, func(o api.Op) {
			if t.Failed() {
				return
			}
			for _, q := range []*api.Prog{nil, {}} {
				if held(t, q, o, types) && slices.Contains([]int{api.OpNew, api.OpGet, api.OpSet, api.OpFace, api.OpCall, api.OpAsk}, k) {
					t.Errorf("without a program: %s can be", told(o, types))
				}
			}
		})
	}
}

func TestP4_3ResultOfNoKind(t *testing.T) {
	p, types := world(), typeList()
	for _, k := range strangers {
		for _, fill := range fills() {
			for _, q := range []*api.Prog{p, nil} {
				if got, can := kind.Result(q, of(fill, k), types); got != api.TNone || can {
					t.Errorf("Result of kind %d: %d, %v", k, got, can)
				}
			}
		}
		if got, can := kind.Result(p, api.Op{K: k}, types); got != api.TNone || can {
			t.Errorf("Result of kind %d: %d, %v", k, got, can)
		}
	}
}

// Row by row, by hand: each good step, and each thing turned that must be.
func TestP4_3ResultByHand(t *testing.T) {
	p, types := world(), typeList()
	const no = -100
	for _, x := range []struct {
		o    api.Op
		want int
	}{
		{api.Op{K: api.OpInt, N: math.MinInt64}, api.TInt}, {api.Op{K: api.OpInt}, api.TInt}, {api.Op{K: api.OpInt, N: 7, A: -1, L: []int{-1}}, api.TInt},
		{api.Op{K: api.OpBool, N: -1}, no}, {api.Op{K: api.OpBool, N: 0}, api.TBool}, {api.Op{K: api.OpBool, N: 1}, api.TBool}, {api.Op{K: api.OpBool, N: 2}, no}, {api.Op{K: api.OpBool, N: 1<<32 + 1}, no},
		{api.Op{K: api.OpText}, api.TText}, {api.Op{K: api.OpText, S: strings.Repeat("x", 64)}, api.TText}, {api.Op{K: api.OpText, S: strings.Repeat("x", 65)}, no},
		{api.Op{K: api.OpArith, N: api.Add, A: vInt, B: vInt}, api.TInt}, {api.Op{K: api.OpArith, N: api.Shr, A: vInt, B: vInt2}, api.TInt}, {api.Op{K: api.OpArith, N: api.Less, A: vInt, B: vInt2}, api.TBool},
		{api.Op{K: api.OpArith, N: 13, A: vInt, B: vInt}, api.TBool}, {api.Op{K: api.OpArith, N: 14, A: vInt, B: vInt}, no}, {api.Op{K: api.OpArith, N: -1, A: vInt, B: vInt}, no},
		{api.Op{K: api.OpArith, N: api.Same, A: vBool, B: vBool}, no}, {api.Op{K: api.OpArith, N: api.Same, A: vText, B: vText}, no}, {api.Op{K: api.OpArith, A: vInt, B: vBool}, no}, {api.Op{K: api.OpArith, A: vNone, B: vInt}, no},
		{api.Op{K: api.OpArith, A: -1, B: vInt}, no}, {api.Op{K: api.OpArith, A: vInt, B: 15}, no},
		{api.Op{K: api.OpNot, A: vBool}, api.TBool}, {api.Op{K: api.OpNot, A: vInt}, no}, {api.Op{K: api.OpNot, A: -1}, no},
		{api.Op{K: api.OpCat, A: vText, B: vText2}, api.TText}, {api.Op{K: api.OpCat, A: vText, B: vInt}, no}, {api.Op{K: api.OpCat, A: vInt, B: vText}, no},
		{api.Op{K: api.OpAlike, A: vText, B: vText}, api.TBool}, {api.Op{K: api.OpAlike, A: vInt, B: vInt}, no}, {api.Op{K: api.OpAlike, A: vText, B: vSlice}, no},
		{api.Op{K: api.OpLong, A: vText}, api.TInt}, {api.Op{K: api.OpLong, A: vSlice}, no},
		{api.Op{K: api.OpByte, A: vText, B: vInt}, api.TInt}, {api.Op{K: api.OpByte, A: vText, B: vText}, no}, {api.Op{K: api.OpByte, A: vSlice, B: vInt}, no},
		{api.Op{K: api.OpNew, N: 0, L: []int{vInt, vText, vPtr1}}, api.TPtr}, {api.Op{K: api.OpNew, N: 1}, api.TPtr + 1}, {api.Op{K: api.OpNew, N: 1, L: []int{}}, api.TPtr + 1},
		{api.Op{K: api.OpNew, N: 2, L: []int{vFace, vSlice, vTable, vBool, vPtr2, vInt, vInt, vText}, Stack: true}, api.TPtr + 2},
		{api.Op{K: api.OpNew, N: 0, L: []int{vInt, vText}}, no}, {api.Op{K: api.OpNew, N: 0, L: []int{vInt, vText, vPtr1, vInt}}, no}, {api.Op{K: api.OpNew, N: 0, L: []int{vInt, vText, vPtr0}}, no},
		{api.Op{K: api.OpNew, N: 0, L: []int{vInt, vText, -1}}, no}, {api.Op{K: api.OpNew, N: 0}, no}, {api.Op{K: api.OpNew, N: 1, L: []int{vInt}}, no}, {api.Op{K: api.OpNew, N: 3}, no}, {api.Op{K: api.OpNew, N: -1}, no},
		{api.Op{K: api.OpGet, N: 0, A: vPtr0}, api.TInt}, {api.Op{K: api.OpGet, N: 2, A: vPtr0}, api.TPtr + 1}, {api.Op{K: api.OpGet, N: 7, A: vPtr2}, api.TText}, {api.Op{K: api.OpGet, N: 8, A: vPtr2}, no},
		{api.Op{K: api.OpGet, N: 3, A: vPtr0}, no}, {api.Op{K: api.OpGet, N: -1, A: vPtr0}, no}, {api.Op{K: api.OpGet, N: 0, A: vPtr1}, no}, {api.Op{K: api.OpGet, N: 0, A: vPtr3}, no}, {api.Op{K: api.OpGet, N: 0, A: vFace}, no}, {api.Op{K: api.OpGet, N: 0, A: vNone}, no},
		{api.Op{K: api.OpSet, N: 1, A: vPtr0, B: vText}, api.TNone}, {api.Op{K: api.OpSet, N: 1, A: vPtr0, B: vInt}, no}, {api.Op{K: api.OpSet, N: 3, A: vPtr0, B: vInt}, no}, {api.Op{K: api.OpSet, N: 4, A: vPtr2, B: vPtr2}, api.TNone},
		{api.Op{K: api.OpSet, N: 0, A: vPtr3, B: vInt}, no}, {api.Op{K: api.OpSet, N: 0, A: vInt, B: vPtr0}, no}, {api.Op{K: api.OpSet, N: 0, A: vPtr0, B: 15}, no}, {api.Op{K: api.OpSet, N: 0, A: 15, B: vInt}, no},
		{api.Op{K: api.OpMake, N: -1}, no}, {api.Op{K: api.OpMake, N: 0}, api.TSlice}, {api.Op{K: api.OpMake, N: 128}, api.TSlice}, {api.Op{K: api.OpMake, N: 129}, no}, {api.Op{K: api.OpMake, N: 1 << 32}, no},
		{api.Op{K: api.OpRoom, A: vInt}, api.TSlice}, {api.Op{K: api.OpRoom, A: vSlice}, no},
		{api.Op{K: api.OpSize, A: vSlice}, api.TInt}, {api.Op{K: api.OpSize, A: vTable}, no}, {api.Op{K: api.OpSize, A: vText}, no},
		{api.Op{K: api.OpAt, A: vSlice, B: vInt}, api.TInt}, {api.Op{K: api.OpAt, A: vSlice, B: vBool}, no}, {api.Op{K: api.OpAt, A: vTable, B: vInt}, no},
		{api.Op{K: api.OpPut, A: vSlice, B: vInt, C: vInt2}, api.TNone}, {api.Op{K: api.OpPut, A: vSlice, B: vInt, C: vBool}, no}, {api.Op{K: api.OpPut, A: vSlice, B: vBool, C: vInt}, no}, {api.Op{K: api.OpPut, A: vTable, B: vInt, C: vInt}, no}, {api.Op{K: api.OpPut, A: vSlice, B: vInt, C: -1}, no},
		{api.Op{K: api.OpTable}, api.TTable}, {api.Op{K: api.OpTable, Stack: true, A: -1, N: -1}, api.TTable},
		{api.Op{K: api.OpEnter, A: vTable, B: vInt, C: vInt}, api.TNone}, {api.Op{K: api.OpEnter, A: vSlice, B: vInt, C: vInt}, no}, {api.Op{K: api.OpEnter, A: vTable, B: vText, C: vInt}, no}, {api.Op{K: api.OpEnter, A: vTable, B: vInt, C: vText}, no},
		{api.Op{K: api.OpLook, A: vTable, B: vInt}, api.TInt}, {api.Op{K: api.OpLook, A: vTable, B: vText}, no}, {api.Op{K: api.OpLook, A: vSlice, B: vInt}, no},
		{api.Op{K: api.OpKey, A: vTable, B: vInt}, api.TInt}, {api.Op{K: api.OpKey, A: vTable, B: vTable}, no}, {api.Op{K: api.OpKey, A: vSlice, B: vInt}, no},
		{api.Op{K: api.OpCount, A: vTable}, api.TInt}, {api.Op{K: api.OpCount, A: vSlice}, no},
		{api.Op{K: api.OpFace, A: vPtr0}, api.TFace}, {api.Op{K: api.OpFace, A: vPtr2}, api.TFace}, {api.Op{K: api.OpFace, A: vPtr3}, no}, {api.Op{K: api.OpFace, A: vFace}, no}, {api.Op{K: api.OpFace, A: vTable}, no}, {api.Op{K: api.OpFace, A: vNone}, no},
		{api.Op{K: api.OpCall, N: 0, L: []int{vInt}}, api.TInt}, {api.Op{K: api.OpCall, N: 1}, no}, {api.Op{K: api.OpCall, N: 1, L: []int{vInt}}, no}, {api.Op{K: api.OpCall, N: 2}, api.TNone}, {api.Op{K: api.OpCall, N: 2, L: []int{vInt}}, no},
		{api.Op{K: api.OpCall, N: 3, L: []int{vText, vPtr0, vFace}}, api.TText}, {api.Op{K: api.OpCall, N: 3, L: []int{vInt}}, no}, {api.Op{K: api.OpCall, N: 3, L: []int{vText, vPtr0}}, no}, {api.Op{K: api.OpCall, N: 3, L: []int{vText, vPtr1, vFace}}, no},
		{api.Op{K: api.OpCall, N: 4, L: []int{vBool, vInt, vInt2, vSlice, vTable, vPtr2, vText2, vFace}}, api.TPtr + 2}, {api.Op{K: api.OpCall, N: 5}, no}, {api.Op{K: api.OpCall, N: -1}, no}, {api.Op{K: api.OpCall, N: 0, L: []int{15}}, no}, {api.Op{K: api.OpCall, N: 0, L: []int{-1}}, no},
		{api.Op{K: api.OpAsk, N: 0, A: vFace}, api.TNone}, {api.Op{K: api.OpAsk, N: 0, A: vFace, L: []int{vFace}}, no}, {api.Op{K: api.OpAsk, N: 0, A: vPtr0}, no},
		{api.Op{K: api.OpAsk, N: 1, A: vFace, L: []int{vInt, vText}}, api.TBool}, {api.Op{K: api.OpAsk, N: 1, A: vFace, L: []int{vText, vInt}}, no}, {api.Op{K: api.OpAsk, N: 1, A: vFace, L: []int{vInt}}, no}, {api.Op{K: api.OpAsk, N: 1, A: vFace, L: []int{vInt, vText, vText}}, no},
		{api.Op{K: api.OpAsk, N: 2, A: vFace, L: []int{vPtr1}}, api.TPtr}, {api.Op{K: api.OpAsk, N: 2, A: vFace, L: []int{vPtr0}}, no}, {api.Op{K: api.OpAsk, N: 3, A: vFace}, no}, {api.Op{K: api.OpAsk, N: -1, A: vFace}, no}, {api.Op{K: api.OpAsk, N: 0, A: 15}, no},
		{api.Op{K: api.OpTell, A: vInt}, api.TNone}, {api.Op{K: api.OpTell, A: vText}, api.TNone}, {api.Op{K: api.OpTell, A: vBool}, no}, {api.Op{K: api.OpTell, A: vFace}, no}, {api.Op{K: api.OpTell, A: vNone}, no}, {api.Op{K: api.OpTell, A: -1}, no}, {api.Op{K: api.OpTell, A: 15}, no},
	} {
		want, may := x.want, true
		if want == no {
			want, may = api.TNone, false
		}
		if got, can := kind.Result(p, x.o, types); got != want || can != may {
			t.Errorf("Result of %s: %d, %v, not %d, %v", told(x.o, types), got, can, want, may)
		}
	}
}

// Each sign, and what comes of it.
func TestP4_3ResultOfSigns(t *testing.T) {
	for n := int64(-3); n <= 20; n++ {
		want, may := api.TNone, false
		if n >= 0 && n <= 13 {
			want, may = api.TInt, true
		}
		if n >= 10 && n <= 13 {
			want = api.TBool
		}
		o := api.Op{K: api.OpArith, N: n, A: 0, B: 1}
		if got, can := kind.Result(nil, o, []int{api.TInt, api.TInt}); got != want || can != may {
			t.Errorf("sign %d: %d, %v, not %d, %v", n, got, can, want, may)
		}
	}
}

// Without types no step can be that is of any value; all others can.
func TestP4_3ResultWithoutTypes(t *testing.T) {
	p := world()
	for k := range api.Ops {
		for _, types := range [][]int{nil, {}} {
			for _, o := range []api.Op{{K: k}, {K: k, N: 1, A: -1}, {K: k, N: 1, L: []int{0}}, {K: k, N: 2}} {
				held(t, p, o, types)
			}
		}
	}
	for _, k := range []int{api.OpInt, api.OpBool, api.OpText, api.OpMake, api.OpTable} {
		if _, can := kind.Result(nil, api.Op{K: k}, nil); !can {
			t.Errorf("kind %d can't be", k)
		}
	}
	if got, can := kind.Result(p, api.Op{K: api.OpTell}, nil); got != api.TNone || can {
		t.Error("a tell of nothing:", got, can)
	}
}

// A value is of this list of types alone: not of what lies in its spare room.
func TestP4_3ResultAsksNoSpareRoom(t *testing.T) {
	types := []int{api.TInt, api.TInt, api.TInt}[:1]
	for _, value := range []int{1, 2} {
		if got, can := kind.Result(nil, api.Op{K: api.OpTell, A: value}, types); got != api.TNone || can {
			t.Error(value, got, can)
		}
	}
}

func TestP4_3ResultLeavesWhatItIsHanded(t *testing.T) {
	p, types := world(), typeList()
	for k := range api.Ops {
		for _, fill := range fills() {
			o := of(fill, k)
			kind.Result(p, o, types)
			kind.Flags(o)
			kind.Uses(o)
			kind.Plain(o)
			if !alike(o, of(fill, k)) {
				t.Errorf("kind %d: changed: %+v", k, o)
			}
		}
		steps(world(), k, typeList(), func(o api.Op) { kind.Result(p, o, types) })
	}
	if fmt.Sprint(*p) != fmt.Sprint(*world()) || !slices.Equal(types, typeList()) {
		t.Error("changed:", *p, types)
	}
}

func TestP4_3Type(t *testing.T) {
	for _, classes := range []int{0, 1, 2, 3, api.MaxClasses} {
		p := &api.Prog{Classes: make([]api.Class, classes)}
		for n := -70; n <= 70; n++ {
			if got, want := kind.Type(p, n), n >= 0 && n <= 5+classes; got != want {
				t.Errorf("Type(%d) of %d classes: %v", n, classes, got)
			}
		}
		for _, n := range []int{math.MinInt, math.MinInt + 1, math.MinInt + api.TPtr, math.MinInt32, -1 << 32, 1 << 32, 1<<32 + api.TPtr, math.MaxInt32, math.MaxInt - 1, math.MaxInt} {
			if kind.Type(p, n) {
				t.Errorf("Type(%d) of %d classes", n, classes)
			}
		}
	}
}

func TestP4_3TypeOfNoProgram(t *testing.T) {
	for n := -20; n <= 20; n++ {
		if got, want := kind.Type(nil, n), n >= api.TInt && n <= api.TFace; got != want {
			t.Errorf("Type(%d) of no program: %v", n, got)
		}
	}
	for _, n := range []int{math.MinInt, math.MaxInt} {
		if kind.Type(nil, n) {
			t.Errorf("Type(%d) of no program", n)
		}
	}
}

// Sigs and functions are no classes: a program that has many of them has no pointers for it.
func TestP4_3TypeHangsOnClassesAlone(t *testing.T) {
	p := &api.Prog{Sigs: make([]api.Sig, 4), Funcs: make([]api.Func, 9), Classes: make([]api.Class, 1)}
	for n := -2; n <= 12; n++ {
		if got, want := kind.Type(p, n), n >= 0 && n <= api.TPtr; got != want {
			t.Errorf("Type(%d): %v", n, got)
		}
	}
}
