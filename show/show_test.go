package show_test

import (
	"fmt"
	"math"
	"slices"
	"strings"
	"testing"

	"hallmark/api"
	"hallmark/show"
)

// lines are lines, each with its line feed.
func lines(l ...string) string {
	return strings.Join(l, "\n") + "\n"
}

// full is a step whose fields all hold something, those that play no part among them.
func full(k int) api.Op {
	return api.Op{K: k, A: 4, B: 5, C: 6, N: 7, S: "s", L: []int{8, 9, 10}, Stack: true}
}

// fullEnd is an end whose fields all hold something.
func fullEnd(k int) api.End {
	return api.End{K: k, A: 4, To: 5, L: []int{7, 8}, Else: 6, M: []int{9}}
}

// strangers are kinds that are none, of steps, ends and signs alike, some of them kinds in their lowest bits alone.
var strangers = []int{-1, -2, -26, 26, 27, 64, 255, 256, 256 + 3, 1 << 16, 1 << 32, 1<<32 + 3, math.MaxInt, math.MinInt}

// P6.1: the types' names.
func TestType(t *testing.T) {
	for _, x := range []struct {
		kind int
		want string
	}{
		{api.TNone, "none"}, {api.TInt, "int"}, {api.TBool, "bool"}, {api.TText, "text"}, {api.TSlice, "slice"}, {api.TTable, "table"}, {api.TFace, "face"},
		{api.TPtr, "*0"}, {api.TPtr + 1, "*1"}, {api.TPtr + 6, "*6"}, {api.TPtr + api.MaxClasses - 1, "*7"}, {api.TPtr + api.MaxClasses, "*8"}, {api.TPtr + 10, "*10"}, {255, "*249"}, {256, "*250"},
		{math.MaxInt, "*9223372036854775801"},
		{-2, "?"}, {-3, "?"}, {-7, "?"}, {-255, "?"}, {-256, "?"}, {math.MinInt + 1, "?"}, {math.MinInt, "?"},
	} {
		if got := show.Type(x.kind); got != x.want {
			t.Errorf("Type(%d): %q, not %q", x.kind, got, x.want)
		}
	}
}

// written are the texts of full steps of all kinds.
var written = []string{
	api.OpInt:   "int 7",
	api.OpBool:  "bool 7",
	api.OpText:  `text "s"`,
	api.OpArith: "arith xor v4 v5",
	api.OpNot:   "not v4",
	api.OpCat:   "cat v4 v5",
	api.OpLong:  "long v4",
	api.OpByte:  "byte v4 v5",
	api.OpAlike: "alike v4 v5",
	api.OpNew:   "new 7 (v8,v9,v10) stack",
	api.OpGet:   "get 7 v4",
	api.OpSet:   "set 7 v4 v5",
	api.OpMake:  "make 7 stack",
	api.OpRoom:  "room v4",
	api.OpSize:  "size v4",
	api.OpAt:    "at v4 v5",
	api.OpPut:   "put v4 v5 v6",
	api.OpTable: "table stack",
	api.OpEnter: "enter v4 v5 v6",
	api.OpLook:  "look v4 v5",
	api.OpCount: "count v4",
	api.OpKey:   "key v4 v5",
	api.OpFace:  "face v4",
	api.OpCall:  "call 7 (v8,v9,v10)",
	api.OpAsk:   "ask 7 v4 (v8,v9,v10)",
	api.OpTell:  "tell v4",
}

// P6.1, P6.2: each kind's name, and the fields that play a part, in their order; others, full as they are, don't show.
func TestOpOfEachKind(t *testing.T) {
	if len(written) != api.Ops {
		t.Fatal("kinds", len(written))
	}
	for k, want := range written {
		if got := show.Op(full(k)); got != want {
			t.Errorf("%d: %q, not %q", k, got, want)
		}
	}
}

// TestOpOfNothing: fields that are zero show as such, but for Stack.
func TestOpOfNothing(t *testing.T) {
	wants := []string{
		"int 0", "bool 0", `text ""`, "arith add v0 v0", "not v0", "cat v0 v0", "long v0", "byte v0 v0", "alike v0 v0", "new 0 ()", "get 0 v0", "set 0 v0 v0", "make 0",
		"room v0", "size v0", "at v0 v0", "put v0 v0 v0", "table", "enter v0 v0 v0", "look v0 v0", "count v0", "key v0 v0", "face v0", "call 0 ()", "ask 0 v0 ()", "tell v0",
	}
	for k, want := range wants {
		if got := show.Op(api.Op{K: k}); got != want {
			t.Errorf("%d: %q, not %q", k, got, want)
		}
	}
}

// P6.1: the signs' names.
func TestSigns(t *testing.T) {
	for n, name := range strings.Fields("add sub mul div rem and or xor shl shr less most same else") {
		if got := show.Op(api.Op{K: api.OpArith, N: int64(n), A: 1, B: 2}); got != "arith "+name+" v1 v2" {
			t.Errorf("%d: %q", n, got)
		}
	}
	if got := show.Op(api.Op{K: api.OpArith, N: api.Else + 1, A: 3}); got != "arith ? v3 v0" {
		t.Errorf("%q", got)
	}
	for _, n := range strangers {
		if got := show.Op(api.Op{K: api.OpArith, N: int64(n), A: 1, B: 2}); got != "arith ? v1 v2" {
			t.Errorf("%d: %q", n, got)
		}
	}
	if got := show.Op(api.Op{K: api.OpSet, N: api.Sub}); got != "set 1 v0 v0" {
		t.Errorf("N has a sign's name in a step that has none: %q", got)
	}
}

// TestStrangers: a kind that is none has no fields.
func TestStrangers(t *testing.T) {
	for _, k := range strangers {
		if got := show.Op(full(k)); got != "?" {
			t.Errorf("%d: %q", k, got)
		}
	}
}

// P6.2: lists, numbers, texts, and Stack.
func TestOpFields(t *testing.T) {
	long := slices.Repeat([]int{12}, 300)
	for _, x := range []struct {
		o    api.Op
		want string
	}{
		{api.Op{K: api.OpArith, N: api.Add, A: 1, B: 2}, "arith add v1 v2"},
		{api.Op{K: api.OpCall, N: 15, L: []int{}}, "call 15 ()"},
		{api.Op{K: api.OpCall, N: 15, L: []int{3}}, "call 15 (v3)"},
		{api.Op{K: api.OpCall, N: 15, L: []int{3, 3}}, "call 15 (v3,v3)"},
		{api.Op{K: api.OpAsk, N: 3, A: 10, L: []int{0, 1, 2, 3, 4, 5, 6, 7}}, "ask 3 v10 (v0,v1,v2,v3,v4,v5,v6,v7)"},
		{api.Op{K: api.OpNew, L: long, Stack: true}, "new 0 (v12" + strings.Repeat(",v12", 299) + ") stack"},
		{api.Op{K: api.OpNew, N: 2}, "new 2 ()"},
		{api.Op{K: api.OpNew, N: 2, Stack: true}, "new 2 () stack"},
		{api.Op{K: api.OpMake, N: 128}, "make 128"},
		{api.Op{K: api.OpMake, N: 128, Stack: true}, "make 128 stack"},
		{api.Op{K: api.OpTable}, "table"},
		{api.Op{K: api.OpTable, Stack: true}, "table stack"},
		{api.Op{K: api.OpRoom, A: 1, Stack: true}, "room v1"},
		{api.Op{K: api.OpInt, N: -5}, "int -5"},
		{api.Op{K: api.OpInt, N: 1<<32 + 1}, "int 4294967297"},
		{api.Op{K: api.OpInt, N: math.MinInt64}, "int -9223372036854775808"},
		{api.Op{K: api.OpInt, N: math.MaxInt64}, "int 9223372036854775807"},
		{api.Op{K: api.OpBool, N: -1}, "bool -1"},
		{api.Op{K: api.OpPut, A: -1, B: -20, C: math.MinInt}, "put v-1 v-20 v-9223372036854775808"},
		{api.Op{K: api.OpEnter, A: math.MaxInt, B: 700, C: 0}, "enter v9223372036854775807 v700 v0"},
		{api.Op{K: api.OpAsk, N: -2, A: -3, L: []int{-4, 0, -5}}, "ask -2 v-3 (v-4,v0,v-5)"},
		{api.Op{K: api.OpText, S: `a"\ b`}, `text "a\"\\ b"`},
		{api.Op{K: api.OpText, S: "v1 (\n)"}, `text "v1 (\0a)"`},
		{api.Op{K: api.OpText, S: "\x00\x1f ~\x7f\x80\xff"}, `text "\00\1f ~\7f\80\ff"`},
		{api.Op{K: api.OpText, S: "é"}, `text "\c3\a9"`},
		{api.Op{K: api.OpText, S: strings.Repeat("x", 5000)}, `text "` + strings.Repeat("x", 5000) + `"`},
	} {
		if got := show.Op(x.o); got != x.want {
			t.Errorf("%v: %q, not %q", x.o, got, x.want)
		}
	}
}

// ending is the text of a function of one block without parameters and steps, with an end.
func ending(e api.End) string {
	return show.Func(api.Func{Blocks: []api.Block{{End: e}}})
}

// P6.3: ends.
func TestEnds(t *testing.T) {
	for _, x := range []struct {
		e    api.End
		want string
	}{
		{fullEnd(api.EndJump), "jump 5(v7,v8)"},
		{fullEnd(api.EndBranch), "branch v4 5(v7,v8) 6(v9)"},
		{fullEnd(api.EndRet), "ret v4"},
		{fullEnd(api.EndStop), "stop v4"},
		{api.End{}, "jump 0()"},
		{api.End{K: api.EndBranch}, "branch v0 0() 0()"},
		{api.End{K: api.EndRet}, "ret v0"},
		{api.End{K: api.EndStop}, "stop v0"},
		{api.End{K: api.EndJump, To: -1, L: []int{-2}}, "jump -1(v-2)"},
		{api.End{K: api.EndBranch, A: -1, To: 39, L: []int{}, Else: math.MinInt, M: []int{0, -3}}, "branch v-1 39() -9223372036854775808(v0,v-3)"},
		{api.End{K: api.EndStop, A: math.MaxInt}, "stop v9223372036854775807"},
	} {
		if got, want := ending(x.e), lines("func int", "0()", "  "+x.want); got != want {
			t.Errorf("%v: %q, not %q", x.e, got, want)
		}
	}
	for _, k := range append([]int{4, 5}, strangers...) {
		if got := ending(fullEnd(k)); got != lines("func int", "0()", "  ?") {
			t.Errorf("%d: %q", k, got)
		}
	}
}

// several is a function of several blocks, some of them without parameters, without steps, or without both.
func several() api.Func {
	return api.Func{Ret: api.TPtr + 1, Blocks: []api.Block{
		{Params: []int{api.TInt, api.TPtr}, Ops: []api.Op{full(api.OpInt), full(api.OpTell), {K: 99}}, End: api.End{K: api.EndBranch, A: 2, To: 1, L: []int{0}, Else: 3}},
		{Params: []int{api.TFace}, End: api.End{K: api.EndJump, To: 2}},
		{End: api.End{K: api.EndJump, To: 3}},
		{Ops: []api.Op{full(api.OpText), full(api.OpTable)}, End: api.End{K: api.EndStop, A: 6}},
		{Params: []int{api.TNone, -2}, Ops: []api.Op{full(api.OpSet)}, End: api.End{K: api.EndRet, A: 10}},
	}}
}

// severalText is its text.
const severalText = `func *1
0(int,*0)
  v2 = int 7
  v3 = tell v4
  v4 = ?
  branch v2 1(v0) 3()
1(face)
  jump 2()
2()
  jump 3()
3()
  v6 = text "s"
  v7 = table stack
  stop v6
4(none,?)
  v10 = set 7 v4 v5
  ret v10
`

// P6.3: Func.
func TestFunc(t *testing.T) {
	for _, x := range []struct {
		f    api.Func
		want string
	}{
		{api.Func{}, "func int\n"},
		{api.Func{Ret: api.TNone, Blocks: []api.Block{}}, "func none\n"},
		{api.Func{Ret: math.MinInt}, "func ?\n"},
		{api.Func{Ret: api.TBool, Blocks: []api.Block{{}}}, lines("func bool", "0()", "  jump 0()")},
		{several(), severalText},
	} {
		if got := show.Func(x.f); got != x.want {
			t.Errorf("%v: %q, not %q", x.f, got, x.want)
		}
	}
}

// TestBeyondLimits: what is longer than a program may be is shown all the same, and soon.
func TestBeyondLimits(t *testing.T) {
	const many = 1 << 16
	var f api.Func
	var want strings.Builder
	want.WriteString("func int\n")
	for at := range many {
		f.Blocks = append(f.Blocks, api.Block{Params: []int{api.TText}, Ops: []api.Op{{K: api.OpTable}, {K: api.OpTell}}, End: api.End{K: api.EndRet, A: at}})
		fmt.Fprintf(&want, "%d(text)\n  v%d = table\n  v%d = tell v0\n  ret v%d\n", at, 3*at+1, 3*at+2, at)
	}
	if show.Func(f) != want.String() {
		t.Error("many blocks")
	}
	f = api.Func{Blocks: []api.Block{{Params: slices.Repeat([]int{api.TText}, 100), Ops: slices.Repeat([]api.Op{{K: api.OpLong}}, 2000), End: api.End{L: slices.Repeat([]int{5}, 100)}}}}
	want.Reset()
	want.WriteString("func int\n0(text" + strings.Repeat(",text", 99) + ")\n")
	for at := range 2000 {
		fmt.Fprintf(&want, "  v%d = long v0\n", 100+at)
	}
	want.WriteString("  jump 0(v5" + strings.Repeat(",v5", 99) + ")\n")
	if show.Func(f) != want.String() {
		t.Error("many parameters and steps")
	}
	p := &api.Prog{Sigs: make([]api.Sig, 100), Classes: make([]api.Class, 100), Funcs: make([]api.Func, 100)}
	if show.Prog(p) != strings.Repeat("sig () int\n", 100)+strings.Repeat("class () []\n", 100)+strings.Repeat("func int\n", 100) {
		t.Error("many sigs, classes and functions")
	}
}

// P6.3: Prog.
func TestProg(t *testing.T) {
	for _, x := range []struct {
		p    *api.Prog
		want string
	}{
		{nil, ""},
		{&api.Prog{}, ""},
		{&api.Prog{Sigs: []api.Sig{}, Classes: []api.Class{}, Funcs: []api.Func{}}, ""},
		{&api.Prog{Sigs: []api.Sig{{}}}, "sig () int\n"},
		{&api.Prog{Classes: []api.Class{{}}}, "class () []\n"},
		{&api.Prog{Funcs: []api.Func{{}}}, "func int\n"},
		{&api.Prog{Sigs: []api.Sig{{Params: []int{api.TInt, api.TPtr + 7, -2}, Ret: api.TNone}, {Params: []int{api.TFace}, Ret: api.TText}}}, lines("sig (int,*7,?) none", "sig (face) text")},
		{&api.Prog{Classes: []api.Class{{Fields: []int{api.TSlice}, Methods: []int{-1}}, {Fields: []int{api.TTable, api.TBool, -9}, Methods: []int{3, -1, 15, math.MinInt}}}}, lines("class (slice) [-1]", "class (table,bool,?) [3,-1,15,-9223372036854775808]")},
		{&api.Prog{
			Sigs:    []api.Sig{{}, {Params: []int{api.TBool}, Ret: api.TPtr}},
			Classes: []api.Class{{Methods: []int{1, 0}}, {Fields: []int{api.TPtr + 1}}},
			Funcs:   []api.Func{several(), {}, several(), {Ret: api.TNone}},
		}, lines("sig () int", "sig (bool) *0", "class () [1,0]", "class (*1) []") + severalText + "func int\n" + severalText + "func none\n"},
	} {
		if got := show.Prog(x.p); got != x.want {
			t.Errorf("%v: %q, not %q", x.p, got, x.want)
		}
	}
}
