package kind_test

import (
	"fmt"
	"math"
	"slices"
	"strings"
	"testing"

	"hallmark/api"
	"hallmark/kind"
)

// rows are the chapter's tables of fields and flags, written out kind by kind (OpArith's flags hang on its sign: they stand apart).
var rows = []struct {
	k      int
	fields string
	flags  int
}{
	{api.OpInt, "N", 0},
	{api.OpBool, "N", 0},
	{api.OpText, "S", 0},
	{api.OpArith, "NAB", 0},
	{api.OpNot, "A", 0},
	{api.OpCat, "AB", 1},
	{api.OpLong, "A", 0},
	{api.OpByte, "AB", 1},
	{api.OpAlike, "AB", 0},
	{api.OpNew, "NLK", 8},
	{api.OpGet, "NA", 2},
	{api.OpSet, "NAB", 4},
	{api.OpMake, "NK", 8},
	{api.OpRoom, "A", 1 + 8},
	{api.OpSize, "A", 0},
	{api.OpAt, "AB", 1 + 2},
	{api.OpPut, "ABC", 1 + 4},
	{api.OpTable, "K", 8},
	{api.OpEnter, "ABC", 4},
	{api.OpLook, "AB", 2},
	{api.OpCount, "A", 2},
	{api.OpKey, "AB", 1 + 2},
	{api.OpFace, "A", 0},
	{api.OpCall, "NL", 16},
	{api.OpAsk, "NAL", 1 + 16},
	{api.OpTell, "A", 32},
}

// strangers are kinds that are none, some of them kinds in their lowest bits alone.
var strangers = []int{
	-1, -2, -3, -25, -26, -27, -255, -256, 26, 27, 28, 52, 64, 127, 128, 255, 256, 257, 259, 1 << 16, 1<<16 + 9, 1 << 32, 1<<32 + 3, 1<<32 + 24, -1 << 32,
	math.MaxInt32, math.MinInt32, math.MaxInt, math.MinInt,
}

// kinds are all kinds, and some that are none.
func kinds() []int {
	var l []int
	for k := range api.Ops {
		l = append(l, k)
	}
	return append(l, strangers...)
}

// plays are the letters of a kind, by the table of this test.
func plays(k int) string {
	if 0 <= k && k < len(rows) {
		return rows[k].fields
	}
	return ""
}

// fills are steps whose fields hold something, or nothing, each its own; K is laid in later.
func fills() []api.Op {
	return []api.Op{
		{A: 4, B: 5, C: 6, N: 7, S: "s", L: []int{8, 9, 10}, Stack: true},
		{A: 4, B: 5, C: 6, N: 3, S: "seven", L: []int{1}, Stack: false},
		{A: -1, B: -2, C: -3, N: -4, S: "\x00\xff", L: []int{-5, -6}, Stack: true},
		{A: 2, B: 2, C: 2, N: 4, S: strings.Repeat("x", 100), L: []int{2, 2, 2, 2}, Stack: true},
		{A: math.MaxInt, B: math.MinInt, C: math.MaxInt, N: math.MinInt64, S: "é", L: []int{math.MinInt, math.MaxInt, 0}, Stack: true},
		{A: 1, B: 0, C: 3, N: math.MaxInt64, S: "", L: []int{}, Stack: true},
		{A: 0, B: 1, C: 2, N: 1, S: "t", L: nil, Stack: false},
		{A: 3, B: 2, C: 1, N: 0, S: "u", L: slices.Repeat([]int{6, 0, 5}, 40), Stack: true},
		{L: []int{0}, Stack: true},
		{},
	}
}

// of is a fill as a step of a kind, its list in memory of its own.
func of(fill api.Op, k int) api.Op {
	fill.K = k
	fill.L = slices.Clone(fill.L)
	return fill
}

// alike tells whether two steps are one, field by field; nil and empty lists are alike.
func alike(a, b api.Op) bool {
	return a.K == b.K && a.A == b.A && a.B == b.B && a.C == b.C && a.N == b.N && a.S == b.S && slices.Equal(a.L, b.L) && a.Stack == b.Stack
}

// stripped is a step with the fields of these letters alone.
func stripped(o api.Op, letters string) api.Op {
	has := func(letter string) bool { return strings.Contains(letters, letter) }
	if !has("N") {
		o.N = 0
	}
	if !has("S") {
		o.S = ""
	}
	if !has("A") {
		o.A = 0
	}
	if !has("B") {
		o.B = 0
	}
	if !has("C") {
		o.C = 0
	}
	if !has("L") {
		o.L = nil
	}
	if !has("K") {
		o.Stack = false
	}
	return o
}

// used is what the chapter says of Uses.
func used(o api.Op) []int {
	var l []int
	letters := plays(o.K)
	for i, value := range []int{o.A, o.B, o.C} {
		if strings.Contains(letters, "ABC"[i:i+1]) {
			l = append(l, value)
		}
	}
	if strings.Contains(letters, "L") {
		l = append(l, o.L...)
	}
	return l
}

func TestP4_1Fields(t *testing.T) {
	if len(rows) != api.Ops {
		t.Fatal("rows:", len(rows))
	}
	for k, row := range rows {
		if row.k != k {
			t.Fatal("row", k, "is of", row.k)
		}
		if got := kind.Fields(k); got != row.fields {
			t.Errorf("Fields(%d): %q, not %q", k, got, row.fields)
		}
	}
	for _, k := range strangers {
		if got := kind.Fields(k); got != "" {
			t.Errorf("Fields(%d): %q", k, got)
		}
	}
}

func TestP4_1PlainByHand(t *testing.T) {
	full := api.Op{A: 4, B: 5, C: 6, N: 7, S: "s", L: []int{8, 9}, Stack: true}
	for k, want := range []api.Op{
		{N: 7}, {N: 7}, {S: "s"}, {N: 7, A: 4, B: 5}, {A: 4}, {A: 4, B: 5}, {A: 4}, {A: 4, B: 5}, {A: 4, B: 5},
		{N: 7, L: []int{8, 9}, Stack: true}, {N: 7, A: 4}, {N: 7, A: 4, B: 5}, {N: 7, Stack: true},
		{A: 4}, {A: 4}, {A: 4, B: 5}, {A: 4, B: 5, C: 6}, {Stack: true}, {A: 4, B: 5, C: 6}, {A: 4, B: 5}, {A: 4}, {A: 4, B: 5},
		{A: 4}, {N: 7, L: []int{8, 9}}, {N: 7, A: 4, L: []int{8, 9}}, {A: 4},
	} {
		want.K = k
		if got := kind.Plain(of(full, k)); !alike(got, want) {
			t.Errorf("Plain of kind %d: %+v, not %+v", k, got, want)
		}
	}
}

func TestP4_1PlainOfAllFills(t *testing.T) {
	for _, k := range kinds() {
		for i, fill := range fills() {
			o := of(fill, k)
			if got, want := kind.Plain(o), stripped(o, plays(k)); !alike(got, want) {
				t.Errorf("Plain of kind %d, fill %d: %+v, not %+v", k, i, got, want)
			}
		}
	}
}

// Each field alone: what plays a part is told, and nothing else is.
func TestP4_1PlainOfEachField(t *testing.T) {
	for _, k := range kinds() {
		for letter, o := range map[string]api.Op{
			"N": {N: -9}, "S": {S: "x"}, "A": {A: 9}, "B": {B: 9}, "C": {C: 9}, "L": {L: []int{0}}, "K": {Stack: true},
		} {
			o.K = k
			want := api.Op{K: k}
			if strings.Contains(plays(k), letter) {
				want = o
			}
			if got := kind.Plain(o); !alike(got, want) {
				t.Errorf("Plain of kind %d, %s alone: %+v", k, letter, got)
			}
		}
	}
}

func TestP4_1PlainIsNewMemory(t *testing.T) {
	for _, k := range kinds() {
		backing := []int{1, 2, 3, 77, 78, 79}
		o := api.Op{K: k, L: backing[:3]}
		a, b := kind.Plain(o), kind.Plain(o)
		if strings.Contains(plays(k), "L") && (len(a.L) != 3 || len(b.L) != 3) {
			t.Fatalf("kind %d: %v, %v", k, a.L, b.L)
		}
		scribble(a.L)
		if !slices.Equal(backing, []int{1, 2, 3, 77, 78, 79}) || slices.Contains(b.L, mark) {
			t.Errorf("kind %d: a list is shared: %v, %v", k, backing, b.L)
		}
		scribble(o.L)
		if slices.Contains(b.L, mark) {
			t.Errorf("kind %d: the step's list is kept: %v", k, b.L)
		}
	}
	// Of an empty list there is spare room, too.
	backing := []int{1, 2}
	scribble(kind.Plain(api.Op{K: api.OpCall, L: backing[:0]}).L)
	if !slices.Equal(backing, []int{1, 2}) {
		t.Error("spare room is shared:", backing)
	}
}

// mark is what scribble writes: no value of these tests is it.
const mark = -987654321

// scribble writes into a list, and into all of its spare room.
func scribble(l []int) {
	l = l[:cap(l)]
	for i := range l {
		l[i] = mark
	}
}

func TestP4_1UsesByHand(t *testing.T) {
	full := api.Op{A: 4, B: 5, C: 6, N: 7, S: "s", L: []int{8, 9, 1}, Stack: true}
	for k, want := range [][]int{
		{}, {}, {}, {4, 5}, {4}, {4, 5}, {4}, {4, 5}, {4, 5}, {8, 9, 1}, {4}, {4, 5}, {}, {4}, {4}, {4, 5}, {4, 5, 6}, {},
		{4, 5, 6}, {4, 5}, {4}, {4, 5}, {4}, {8, 9, 1}, {4, 8, 9, 1}, {4},
	} {
		if got := kind.Uses(of(full, k)); !slices.Equal(got, want) {
			t.Errorf("Uses of kind %d: %v, not %v", k, got, want)
		}
	}
	for _, k := range strangers {
		if got := kind.Uses(of(full, k)); len(got) != 0 {
			t.Errorf("Uses of kind %d: %v", k, got)
		}
	}
}

func TestP4_1UsesOfAllFills(t *testing.T) {
	for _, k := range kinds() {
		for i, fill := range fills() {
			o := of(fill, k)
			if got, want := kind.Uses(o), used(o); !slices.Equal(got, want) {
				t.Errorf("Uses of kind %d, fill %d: %v, not %v", k, i, got, want)
			}
		}
	}
}

func TestP4_1UsesIsNewMemory(t *testing.T) {
	for _, k := range kinds() {
		backing := []int{1, 2, 3, 77, 78, 79}
		o := api.Op{K: k, A: 5, B: 6, C: 7, L: backing[:3]}
		a, b := kind.Uses(o), kind.Uses(o)
		scribble(a)
		if !slices.Equal(backing, []int{1, 2, 3, 77, 78, 79}) || slices.Contains(b, mark) {
			t.Errorf("kind %d: memory is shared: %v, %v", k, backing, b)
		}
		scribble(o.L)
		if slices.Contains(b, mark) {
			t.Errorf("kind %d: the step's list is kept: %v", k, b)
		}
	}
}

// targets are lists to rename by: none, shorter than values are, longer, with numbers below 0, in another order.
func targets() [][]int {
	return [][]int{
		nil, {}, {100}, {-1}, {1, 0}, {5, 4, 3, 2, 1, 0}, {10, 11, 12, 13, 14, 15, 16, 17, 18, 19, 20},
		{-1, -1, -1, -1, -1, -1, -1, -1, -1, -1, -1}, {3, 3, 3, 3, 3}, {1, 2, 3, 4, 5, 6, 7, 8, 9, 10}, {math.MaxInt, math.MinInt, 7, 0, -7, 4, 5},
		{0, 1, 2, 3, 4, 5, 6, 7, 8},
	}
}

// renamed is what the chapter says of Renamed.
func renamed(o api.Op, to []int) api.Op {
	one := func(value int) int {
		if value < 0 || value >= len(to) {
			return value
		}
		return to[value]
	}
	o.A, o.B, o.C = one(o.A), one(o.B), one(o.C)
	var l []int
	for _, value := range o.L {
		l = append(l, one(value))
	}
	o.L = l
	return stripped(o, plays(o.K))
}

func TestP4_1RenamedByHand(t *testing.T) {
	for _, x := range []struct {
		o    api.Op
		to   []int
		want api.Op
	}{
		{api.Op{K: api.OpAsk, N: 1, A: 2, B: 2, C: 2, L: []int{0, 1, 2, 3}, S: "x", Stack: true}, []int{10, 11, 12}, api.Op{K: api.OpAsk, N: 1, A: 12, L: []int{10, 11, 12, 3}}},
		{api.Op{K: api.OpPut, A: 0, B: 1, C: 2, N: 5}, []int{1, 2, 0}, api.Op{K: api.OpPut, A: 1, B: 2, C: 0}},
		{api.Op{K: api.OpEnter, A: 0, B: 1, C: 2}, []int{7}, api.Op{K: api.OpEnter, A: 7, B: 1, C: 2}},
		{api.Op{K: api.OpNew, N: 0, A: 1, L: []int{1, -1, 0}, Stack: true}, []int{-1, 0}, api.Op{K: api.OpNew, L: []int{0, -1, -1}, Stack: true}},
		{api.Op{K: api.OpArith, N: 1, A: -1, B: 1, C: 1}, []int{5, 6}, api.Op{K: api.OpArith, N: 1, A: -1, B: 6}},
		{api.Op{K: api.OpSet, N: 1, A: 1, B: 1}, []int{0, 9}, api.Op{K: api.OpSet, N: 1, A: 9, B: 9}},
		{api.Op{K: api.OpInt, N: 1, A: 1, B: 1, C: 1, L: []int{1}}, []int{0, 9}, api.Op{K: api.OpInt, N: 1}},
		{api.Op{K: api.OpCall, N: 1, L: []int{0, 0, 1}}, []int{1, 0}, api.Op{K: api.OpCall, N: 1, L: []int{1, 1, 0}}},
		{api.Op{K: api.OpTell, A: 3}, []int{5, 6, 7}, api.Op{K: api.OpTell, A: 3}},
		{api.Op{K: api.OpTell, A: 2}, []int{5, 6, 7}, api.Op{K: api.OpTell, A: 7}},
		{api.Op{K: api.OpTell, A: 0, N: 4}, nil, api.Op{K: api.OpTell}},
		{api.Op{K: 26, A: 0, N: 4, L: []int{0}}, []int{9}, api.Op{K: 26}},
		{api.Op{K: -1, A: 0, N: 4, L: []int{0}}, []int{9}, api.Op{K: -1}},
	} {
		if got := kind.Renamed(x.o, x.to); !alike(got, x.want) {
			t.Errorf("Renamed(%+v, %v): %+v, not %+v", x.o, x.to, got, x.want)
		}
	}
}

func TestP4_1RenamedOfAllFills(t *testing.T) {
	for _, k := range kinds() {
		for i, fill := range fills() {
			for _, to := range targets() {
				o, given := of(fill, k), slices.Clone(to)
				before := of(fill, k)
				if got, want := kind.Renamed(o, given), renamed(o, to); !alike(got, want) {
					t.Errorf("Renamed of kind %d, fill %d, by %v: %+v, not %+v", k, i, to, got, want)
				}
				if !alike(o, before) || !slices.Equal(given, to) {
					t.Errorf("Renamed of kind %d, fill %d, by %v changed %+v, %v", k, i, to, o, given)
				}
			}
		}
	}
}

func TestP4_1RenamedIsNewMemory(t *testing.T) {
	for _, k := range kinds() {
		backing := []int{1, 2, 0, 77, 78, 79}
		to := []int{2, 0, 1, 4, 5}
		o := api.Op{K: k, L: backing[:3]}
		a, b := kind.Renamed(o, to[:3]), kind.Renamed(o, to[:3])
		scribble(a.L)
		if !slices.Equal(backing, []int{1, 2, 0, 77, 78, 79}) || !slices.Equal(to, []int{2, 0, 1, 4, 5}) || slices.Contains(b.L, mark) {
			t.Errorf("kind %d: memory is shared: %v, %v, %v", k, backing, to, b.L)
		}
		scribble(o.L)
		scribble(to)
		if slices.Contains(b.L, mark) {
			t.Errorf("kind %d: a list is kept: %v", k, b.L)
		}
	}
	// A step may be renamed by its own list.
	l := []int{3, 2, 0, 1}
	for _, k := range []int{api.OpNew, api.OpCall, api.OpAsk} {
		got := kind.Renamed(api.Op{K: k, L: l}, l)
		if !slices.Equal(got.L, []int{1, 0, 3, 2}) || !slices.Equal(l, []int{3, 2, 0, 1}) {
			t.Errorf("kind %d: renamed by its own list: %v, %v", k, got.L, l)
		}
	}
}

func TestP4_2Flags(t *testing.T) {
	for k, row := range rows {
		for i, fill := range fills() {
			if k == api.OpArith {
				continue
			}
			if got := kind.Flags(of(fill, k)); got != row.flags {
				t.Errorf("Flags of kind %d, fill %d: %d, not %d", k, i, got, row.flags)
			}
		}
		// What N is plays no part but in OpArith.
		for _, n := range []int64{api.Div, api.Rem} {
			if got := kind.Flags(api.Op{K: k, N: n}); got != row.flags && k != api.OpArith {
				t.Errorf("Flags of kind %d of %d: %d, not %d", k, n, got, row.flags)
			}
		}
	}
	for _, k := range strangers {
		for i, fill := range fills() {
			if got := kind.Flags(of(fill, k)); got != 0 {
				t.Errorf("Flags of kind %d, fill %d: %d", k, i, got)
			}
		}
	}
}

func TestP4_2FlagsOfArith(t *testing.T) {
	for n := int64(-20); n <= 40; n++ {
		want := 0
		if n == 3 || n == 4 {
			want = 1
		}
		if got := kind.Flags(api.Op{K: api.OpArith, N: n, A: 1, B: 2}); got != want {
			t.Errorf("Flags of the sign %d: %d", n, got)
		}
	}
	for _, n := range []int64{1<<32 + 3, 1<<32 + 4, 1<<8 + 3, 1<<16 + 4, -1<<32 + 3, math.MinInt64 + 3, math.MinInt64, math.MaxInt64} {
		if got := kind.Flags(api.Op{K: api.OpArith, N: n}); got != 0 {
			t.Errorf("Flags of the sign %d: %d", n, got)
		}
	}
}

func TestP4_4PlainOfPlain(t *testing.T) {
	for _, k := range kinds() {
		for i, fill := range fills() {
			plain := kind.Plain(of(fill, k))
			if again := kind.Plain(plain); !alike(again, plain) {
				t.Errorf("kind %d, fill %d: %+v, then %+v", k, i, plain, again)
			}
		}
	}
}

// The same step with other fields that play no part.
func TestP4_4OthersPlayNoPart(t *testing.T) {
	p, types := world(), typeList()
	for _, k := range kinds() {
		for i, fill := range fills() {
			plain := kind.Plain(of(fill, k))
			for j, noise := range fills() {
				noise = of(noise, k)
				o := merged(plain, noise, plays(k))
				what := fmt.Sprintf("kind %d, fills %d and %d", k, i, j)
				if !alike(kind.Plain(o), plain) {
					t.Errorf("%s: Plain: %+v, not %+v", what, kind.Plain(o), plain)
				}
				if !slices.Equal(kind.Uses(o), kind.Uses(plain)) {
					t.Errorf("%s: Uses: %v, not %v", what, kind.Uses(o), kind.Uses(plain))
				}
				if kind.Flags(o) != kind.Flags(plain) {
					t.Errorf("%s: Flags: %d, not %d", what, kind.Flags(o), kind.Flags(plain))
				}
				for _, q := range []*api.Prog{p, nil} {
					a, can := kind.Result(q, o, types)
					b, too := kind.Result(q, plain, types)
					if a != b || can != too {
						t.Errorf("%s: Result: %d, %v, not %d, %v", what, a, can, b, too)
					}
				}
			}
		}
	}
}

// merged is a with the fields of b that have none of these letters.
func merged(a, b api.Op, letters string) api.Op {
	a, b = stripped(a, letters), of(b, a.K)
	for _, letter := range letters {
		switch letter {
		case 'N':
			b.N = a.N
		case 'S':
			b.S = a.S
		case 'A':
			b.A = a.A
		case 'B':
			b.B = a.B
		case 'C':
			b.C = a.C
		case 'L':
			b.L = slices.Clone(a.L)
		case 'K':
			b.Stack = a.Stack
		}
	}
	return b
}

func TestP4_4RenamedByItself(t *testing.T) {
	for _, many := range []int{0, 1, 5, 6, 11, 50} {
		var same []int
		for value := range many {
			same = append(same, value)
		}
		for _, k := range kinds() {
			for i, fill := range fills() {
				o := of(fill, k)
				if got := kind.Renamed(o, same); !alike(got, kind.Plain(o)) {
					t.Errorf("kind %d, fill %d, of %d values: %+v, not %+v", k, i, many, got, kind.Plain(o))
				}
			}
		}
	}
}

func TestExamples(t *testing.T) {
	if got := kind.Flags(api.Op{K: api.OpAt}); got != 3 {
		t.Error("Flags of OpAt:", got)
	}
	if got := kind.Uses(api.Op{K: api.OpAsk, A: 4, L: []int{1, 2}}); !slices.Equal(got, []int{4, 1, 2}) {
		t.Error("Uses of OpAsk:", got)
	}
}
