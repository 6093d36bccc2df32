package show_test

import (
	"fmt"
	"math"
	"math/rand"
	"reflect"
	"strconv"
	"strings"
	"testing"

	"hallmark/api"
	"hallmark/code"
	"hallmark/show"
)

// whole is a program that has each kind of step and of end, all of them full, and each type.
func whole() *api.Prog {
	p := &api.Prog{
		Sigs:    []api.Sig{{Params: []int{0, 5}, Ret: -1}, {Ret: 2}},
		Classes: []api.Class{{Fields: []int{0, 6, 3}, Methods: []int{1, -1}}, {Fields: []int{1, 2, 4}, Methods: []int{-1, 0}}},
		Funcs:   []api.Func{{Ret: 0, Blocks: []api.Block{{Params: []int{0, 1}}, {Params: []int{6}}, {}, {}}}, {Ret: -1}},
	}
	blocks := p.Funcs[0].Blocks
	for k := range api.Ops {
		blocks[k%2].Ops = append(blocks[k%2].Ops, full(k))
	}
	for k := range blocks {
		blocks[k].End = fullEnd(k)
	}
	return p
}

// chance makes things up, always the same ones; kinds, types and signs are such as there are.
type chance struct{ *rand.Rand }

func (c chance) number() int {
	n := int(c.Uint64())
	return n >> c.Intn(64)
}

func (c chance) kind() int {
	return c.Intn(9) - 1
}

func (c chance) list(one func() int) []int {
	l := make([]int, c.Intn(5))
	for at := range l {
		l[at] = one()
	}
	return l
}

func (c chance) step() api.Op {
	s := make([]byte, c.Intn(9))
	c.Read(s)
	o := api.Op{K: c.Intn(api.Ops), A: c.number(), B: c.number(), C: c.number(), N: int64(c.number()), S: string(s), L: c.list(c.number), Stack: c.Intn(2) == 1}
	if o.K == api.OpArith {
		o.N = int64(c.Intn(14))
	}
	return o
}

func (c chance) prog() *api.Prog {
	p := new(api.Prog)
	for range c.Intn(3) {
		p.Sigs = append(p.Sigs, api.Sig{Params: c.list(c.kind), Ret: c.kind()})
	}
	for range c.Intn(3) {
		p.Classes = append(p.Classes, api.Class{Fields: c.list(c.kind), Methods: c.list(c.number)})
	}
	for range c.Intn(3) {
		f := api.Func{Ret: c.kind()}
		for range c.Intn(4) {
			k := api.Block{Params: c.list(c.kind), End: api.End{K: c.Intn(4), A: c.number(), To: c.number(), L: c.list(c.number), Else: c.number(), M: c.list(c.number)}}
			for range c.Intn(6) {
				k.Ops = append(k.Ops, c.step())
			}
			f.Blocks = append(f.Blocks, k)
		}
		p.Funcs = append(p.Funcs, f)
	}
	return p
}

// progs are programs made up, and the whole one.
func progs(many int) []*api.Prog {
	c := chance{rand.New(rand.NewSource(6))}
	l := []*api.Prog{{}, whole()}
	for range many {
		l = append(l, c.prog())
	}
	return l
}

// parted is what stands ahead of a part, and behind it; a text without it can't be read.
func parted(s, part string) (before, after string) {
	before, after, ok := strings.Cut(s, part)
	if !ok {
		panic(fmt.Sprintf("no %q in %q", part, s))
	}
	return before, after
}

func readNumber(s string) int {
	n, err := strconv.Atoi(s)
	if err != nil || strconv.Itoa(n) != s {
		panic("no number: " + s)
	}
	return n
}

func readValue(s string) int {
	_, digits := parted(s, "v")
	return readNumber(digits)
}

func readType(s string) int {
	for at, name := range strings.Fields("none int bool text slice table face") {
		if name == s {
			return at - 1
		}
	}
	_, digits := parted(s, "*")
	return 6 + readNumber(digits)
}

// readList is a list between two marks.
func readList(s string, marks string, one func(string) int) []int {
	if s[:1]+s[len(s)-1:] != marks {
		panic("no list: " + s)
	}
	var l []int
	if inner := s[1 : len(s)-1]; inner != "" {
		for part := range strings.SplitSeq(inner, ",") {
			l = append(l, one(part))
		}
	}
	return l
}

// readText is what stands between two ".
func readText(s string) string {
	s = s[1 : len(s)-1]
	var l []byte
	for ; s != ""; s = s[1:] {
		switch {
		case s[0] == '\\' && (s[1] == '\\' || s[1] == '"'):
			s = s[1:]
			l = append(l, s[0])
		case s[0] == '\\':
			n, err := strconv.ParseUint(s[1:3], 16, 8)
			if err != nil {
				panic(err)
			}
			s = s[2:]
			l = append(l, byte(n))
		default:
			l = append(l, s[0])
		}
	}
	return string(l)
}

// readStep is a step; its fields are known by what they look like, but for a number, which comes first.
func readStep(s string) api.Op {
	name, rest, _ := strings.Cut(s, " ")
	for k, text := range written {
		if first, _, _ := strings.Cut(text, " "); first == name {
			o := api.Op{K: k}
			if name == "text" {
				o.S = readText(rest)
				return o
			}
			readFields(&o, strings.Fields(rest))
			return o
		}
	}
	panic("no step: " + s)
}

func readFields(o *api.Op, parts []string) {
	places := []*int{&o.A, &o.B, &o.C}
	for at, part := range parts {
		switch {
		case part == "stack":
			o.Stack = true
		case part[0] == '(':
			o.L = readList(part, "()", readValue)
		case part[0] == 'v':
			*places[0] = readValue(part)
			places = places[1:]
		case at == 0 && o.K == api.OpArith:
			for n, name := range strings.Fields("add sub mul div rem and or xor shl shr less most same else") {
				if name == part {
					o.N = int64(n)
				}
			}
		case at == 0:
			o.N = int64(readNumber(part))
		default:
			panic("no field: " + part)
		}
	}
}

func readTarget(s string) (int, []int) {
	to, l := parted(s, "(")
	return readNumber(to), readList("("+l, "()", readValue)
}

func readEnd(s string) api.End {
	parts := strings.Split(s, " ")
	var e api.End
	switch parts[0] {
	case "jump":
		e.To, e.L = readTarget(parts[1])
	case "branch":
		e.K, e.A = api.EndBranch, readValue(parts[1])
		e.To, e.L = readTarget(parts[2])
		e.Else, e.M = readTarget(parts[3])
	case "ret":
		e.K, e.A = api.EndRet, readValue(parts[1])
	case "stop":
		e.K, e.A = api.EndStop, readValue(parts[1])
	default:
		panic("no end: " + s)
	}
	return e
}

// read is the program of a text: there is no other one of that text, as each line tells all of it.
func read(t *testing.T, s string) *api.Prog {
	p := new(api.Prog)
	values := 0
	for s != "" {
		var line string
		line, s = parted(s, "\n")
		parts := strings.Split(line, " ")
		switch {
		case parts[0] == "sig":
			p.Sigs = append(p.Sigs, api.Sig{Params: readList(parts[1], "()", readType), Ret: readType(parts[2])})
		case parts[0] == "class":
			p.Classes = append(p.Classes, api.Class{Fields: readList(parts[1], "()", readType), Methods: readList(parts[2], "[]", readNumber)})
		case parts[0] == "func":
			p.Funcs = append(p.Funcs, api.Func{Ret: readType(parts[1])})
			values = 0
		case parts[0] != "":
			values += readBlock(t, &p.Funcs[len(p.Funcs)-1], line)
		default:
			values += readLine(t, &p.Funcs[len(p.Funcs)-1], line, values)
		}
	}
	return p
}

// readBlock is a block's first line; it answers how many values are there.
func readBlock(t *testing.T, f *api.Func, line string) int {
	at, params := parted(line, "(")
	if readNumber(at) != len(f.Blocks) {
		t.Error("a block's number", line)
	}
	k := api.Block{Params: readList("("+params, "()", readType)}
	f.Blocks = append(f.Blocks, k)
	return len(k.Params)
}

// readLine is a step or an end of the last block.
func readLine(t *testing.T, f *api.Func, line string, values int) int {
	k := &f.Blocks[len(f.Blocks)-1]
	_, rest := parted(line, "  ")
	number, step, ok := strings.Cut(rest, " = ")
	if !ok || rest[0] != 'v' {
		k.End = readEnd(rest)
		return 0
	}
	if readValue(number) != values {
		t.Error("a step's number", line, values)
	}
	k.Ops = append(k.Ops, readStep(step))
	return 1
}

// P6.4: a text tells the whole program.
func TestThereAndBack(t *testing.T) {
	for at, p := range progs(1000) {
		s := show.Prog(p)
		if q := read(t, s); !reflect.DeepEqual(code.Copy(p), code.Copy(q)) {
			t.Errorf("%d: another program is read from %s", at, s)
		}
		if show.Prog(code.Copy(p)) != s {
			t.Errorf("%d: what plays no part shows in %s", at, s)
		}
	}
}

// turn is a number of a program's field, turned into another one; kinds and signs stay such as there are.
func turn(n int64, field string, owner any) int64 {
	switch o := owner.(type) {
	case api.Op:
		if field == "K" {
			return (n + 1) % api.Ops
		}
		if field == "N" && o.K == api.OpArith {
			return (n + 1) % 14
		}
	case api.End:
		if field == "K" {
			return (n + 1) % 4
		}
	}
	return n + 1
}

// turned turns each thing in v, one at a time, and back: each number, text and truth; of each list the last one away, and in twice.
func turned(v reflect.Value, field string, owner any, look func(field string)) {
	old := reflect.New(v.Type()).Elem()
	old.Set(v)
	with := func(what string, x reflect.Value) {
		v.Set(x)
		look(what)
		v.Set(old)
	}
	switch v.Kind() {
	case reflect.Struct:
		for at := range v.NumField() {
			turned(v.Field(at), v.Type().Field(at).Name, v.Interface(), look)
		}
	case reflect.Slice:
		for at := range v.Len() {
			turned(v.Index(at), field, owner, look)
		}
		if many := v.Len(); many > 0 {
			with(field+" less", v.Slice(0, many-1))
			with(field+" more", reflect.Append(v.Slice3(0, many, many), v.Index(many-1)))
		} else {
			with(field+" one", reflect.MakeSlice(v.Type(), 1, 1))
		}
	case reflect.String:
		with(field, reflect.ValueOf(v.String()+" "))
	case reflect.Bool:
		with(field, reflect.ValueOf(!v.Bool()))
	default:
		with(field, reflect.ValueOf(turn(v.Int(), field, owner)).Convert(v.Type()))
	}
}

// P6.4: two programs that part in one thing have two texts, if it plays a part, and one, if it plays none.
func TestApart(t *testing.T) {
	for at, p := range progs(60) {
		s, kept := show.Prog(p), code.Copy(p)
		apart, alike := 0, 0
		turned(reflect.ValueOf(p).Elem(), "Prog", nil, func(what string) {
			same := code.Same(p, kept)
			if (show.Prog(p) == s) != same {
				t.Errorf("%d: %s is turned: the same %v, but %s", at, what, same, show.Prog(p))
			}
			if same {
				alike++
			} else {
				apart++
			}
		})
		if show.Prog(p) != s || at == 1 && (apart < 150 || alike < 200) {
			t.Error(at, apart, alike)
		}
	}
}

// TestApartByHand: the same of each kind of step, by the chapter's table, field by field.
func TestApartByHand(t *testing.T) {
	plays := strings.Fields("N N S NAB A AB A AB AB NLK NA NAB NK A A AB ABC K ABC AB A AB A NL NAL A")
	turns := map[string]func(o *api.Op){
		"N": func(o *api.Op) { o.N-- },
		"S": func(o *api.Op) { o.S = "S" },
		"A": func(o *api.Op) { o.A = -o.A },
		"B": func(o *api.Op) { o.B = 50 },
		"C": func(o *api.Op) { o.C = math.MaxInt },
		"L": func(o *api.Op) { o.L = []int{8, 10, 9} },
		"K": func(o *api.Op) { o.Stack = false },
	}
	for k, letters := range plays {
		for letter, turn := range turns {
			o := full(k)
			turn(&o)
			if got := show.Op(o); (got != written[k]) != strings.Contains(letters, letter) {
				t.Error(k, letter, got)
			}
		}
	}
}

// TestAllApart: programs of two texts are two, and of one text one.
func TestAllApart(t *testing.T) {
	l := progs(300)
	l = append(l, progs(50)...)
	for _, p := range l {
		for _, q := range l {
			if (show.Prog(p) == show.Prog(q)) != code.Same(p, q) {
				t.Error(show.Prog(p), show.Prog(q))
			}
		}
	}
}

// roomy gives each list in v spare room that holds something, and lays each list open to the end of that room, if it is told to.
func roomy(v reflect.Value, open bool) {
	switch v.Kind() {
	case reflect.Struct:
		for at := range v.NumField() {
			roomy(v.Field(at), open)
		}
	case reflect.Slice:
		many := v.Len()
		if open {
			v.Set(v.Slice(0, v.Cap()))
		} else {
			l := reflect.MakeSlice(v.Type(), many+1, many+1)
			reflect.Copy(l, v)
			if x := l.Index(many); x.CanInt() {
				x.SetInt(-77)
			}
			v.Set(l.Slice(0, many))
		}
		for at := range many {
			roomy(v.Index(at), open)
		}
	}
}

// TestLeftAsItWas: what is shown stays as it is, its spare room too, and is shown as before.
func TestLeftAsItWas(t *testing.T) {
	// What is kept is never shown: a change made each time would be made to both.
	shown, kept := progs(100), progs(100)
	for at, p := range shown {
		q := kept[at]
		roomy(reflect.ValueOf(p).Elem(), false)
		roomy(reflect.ValueOf(q).Elem(), false)
		first := show.Prog(p)
		for _, f := range p.Funcs {
			show.Func(f)
			for _, k := range f.Blocks {
				for _, o := range k.Ops {
					show.Op(o)
				}
			}
		}
		if show.Prog(p) != first {
			t.Error(at, "another text")
		}
		roomy(reflect.ValueOf(p).Elem(), true)
		roomy(reflect.ValueOf(q).Elem(), true)
		if !reflect.DeepEqual(p, q) {
			t.Error(at, "changed")
		}
	}
}
