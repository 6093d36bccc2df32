package text_test

import (
	"fmt"
	"math"
	"math/big"
	"slices"
	"strings"
	"testing"

	"hallmark/api"
	"hallmark/text"
)

// texts are ordinary ones, and edges.
func texts() []string {
	all := make([]byte, 256)
	for b := range all {
		all[b] = byte(b)
	}
	return []string{
		"", "a", "ab", "hallmark", "two words", `"`, `\`, `\\`, `""`, `"\"`, `\"`, `\0a`, `\\0a`, "a\"\n", "\x00", "\x1f", " ", "~", "\x7f",
		"\x80", "\xff", "\x000", "\x0a0a", "é", "\xc3", "日本", "line\nline\r\n\ttab", "\"quoted\"", "'single'", string(all),
		strings.Repeat("x", 63), strings.Repeat("x", 64), strings.Repeat("x", 65), strings.Repeat("\x00\"", 100),
		strings.Repeat("y", api.MaxText-1), strings.Repeat("y", api.MaxText), strings.Repeat("\xfe", api.MaxText+1), strings.Repeat("z", 10000),
	}
}

// short is a text for a message.
func short(s string) string {
	if len(s) > 40 {
		return fmt.Sprintf("%q and on, %d bytes", s[:40], len(s))
	}
	return fmt.Sprintf("%q", s)
}

func TestP2_1Cat(t *testing.T) {
	for _, a := range texts() {
		for _, b := range texts() {
			want, can := a+b, len(a)+len(b) <= 4096
			if !can {
				want = ""
			}
			if s, ok := text.Cat(a, b); s != want || ok != can {
				t.Errorf("Cat(%s, %s): %s, %v", short(a), short(b), short(s), ok)
			}
		}
	}
}

func TestP2_1CatAtItsEnd(t *testing.T) {
	long := strings.Repeat("0123456789abcdef", 257)
	for n := range 4098 {
		for _, all := range []int{4095, 4096, 4097} {
			if n > all {
				continue
			}
			a, b := long[:n], long[n:all]
			s, ok := text.Cat(a, b)
			if all <= 4096 && (s != long[:all] || !ok) || all > 4096 && (s != "" || ok) {
				t.Fatalf("%d bytes and %d: %d bytes, %v", len(a), len(b), len(s), ok)
			}
		}
	}
}

func TestP2_1Byte(t *testing.T) {
	for _, s := range texts() {
		for i := range int64(len(s)) {
			if b, ok := text.Byte(s, i); b != int64(s[i]) || !ok {
				t.Fatalf("Byte(%s, %d): %d, %v", short(s), i, b, ok)
			}
		}
		n := int64(len(s))
		for _, i := range []int64{-1, -2, -n, -n - 1, n, n + 1, 1 << 31, 1 << 32, -1 << 32, 1<<32 + n/2, math.MaxInt64, math.MinInt64} {
			if 0 <= i && i < n || i == 0 && n > 0 {
				continue
			}
			if b, ok := text.Byte(s, i); b != 0 || ok {
				t.Errorf("Byte(%s, %d): %d, %v", short(s), i, b, ok)
			}
		}
	}
}

func TestP2_1ByteByHand(t *testing.T) {
	for _, x := range []struct {
		s  string
		i  int64
		b  int64
		ok bool
	}{
		{"abc", 0, 97, true}, {"abc", 2, 99, true}, {"abc", 3, 0, false}, {"abc", -1, 0, false}, {"", 0, 0, false},
		{"\xff", 0, 255, true}, {"\x80", 0, 128, true}, {"\x00", 0, 0, true}, {"\x00", 1, 0, false}, {"é", 0, 195, true}, {"é", 1, 169, true},
	} {
		if b, ok := text.Byte(x.s, x.i); b != x.b || ok != x.ok {
			t.Errorf("Byte(%q, %d): %d, %v", x.s, x.i, b, ok)
		}
	}
}

func TestP2_1CutByHand(t *testing.T) {
	for _, x := range []struct {
		s     string
		n     int
		parts []string
	}{
		{"", 1, nil}, {"", 0, nil}, {"", -1, nil}, {"", 100, nil}, {"", math.MaxInt, nil}, {"", math.MinInt, nil},
		{"a", 1, []string{"a"}}, {"a", 2, []string{"a"}},
		{"abcde", 1, []string{"a", "b", "c", "d", "e"}},
		{"abcde", 2, []string{"ab", "cd", "e"}},
		{"abcde", 3, []string{"abc", "de"}},
		{"abcde", 4, []string{"abcd", "e"}},
		{"abcde", 5, []string{"abcde"}},
		{"abcde", 6, []string{"abcde"}},
		{"abcdef", 2, []string{"ab", "cd", "ef"}},
		{"abcdef", 3, []string{"abc", "def"}},
		{"abc", 0, []string{"a", "b", "c"}}, {"abc", -1, []string{"a", "b", "c"}}, {"abc", -3, []string{"a", "b", "c"}},
		{"abc", math.MinInt, []string{"a", "b", "c"}}, {"abc", math.MaxInt, []string{"abc"}}, {"abc", math.MaxInt - 1, []string{"abc"}},
		{"é\x00", 2, []string{"é", "\x00"}}, {"éa", 1, []string{"\xc3", "\xa9", "a"}},
	} {
		if parts := text.Cut(x.s, x.n); !slices.Equal(parts, x.parts) {
			t.Errorf("Cut(%q, %d): %q", x.s, x.n, parts)
		}
	}
}

func TestP2_1CutIntoParts(t *testing.T) {
	for _, s := range texts() {
		for _, n := range []int{-5, 0, 1, 2, 3, 7, 63, 64, 65, 255, 256, 257, 4095, 4096, 4097, 9999, 10000, 10001} {
			size := n
			if size < 1 {
				size = 1
			}
			parts := text.Cut(s, n)
			if len(parts) != (len(s)+size-1)/size {
				t.Fatalf("Cut(%s, %d): %d parts", short(s), n, len(parts))
			}
			for at, part := range parts {
				end := min(at*size+size, len(s))
				if part != s[at*size:end] {
					t.Fatalf("Cut(%s, %d): part %d is %s", short(s), n, at, short(part))
				}
			}
		}
	}
}

func TestP2_1CutAnswersNewMemory(t *testing.T) {
	one, two := text.Cut("abcdefg", 2), text.Cut("abcdefg", 2)
	for at := range one {
		one[at] = "x"
	}
	_ = append(one, "x", "x")
	if !slices.Equal(two, []string{"ab", "cd", "ef", "g"}) || !slices.Equal(text.Cut("abcdefg", 2), two) {
		t.Error(two)
	}
}

// quoted is what the chapter says of one byte.
func quoted(b byte) string {
	if b == 34 || b == 92 {
		return "\\" + string(rune(b))
	}
	if b < 32 || b > 126 {
		return fmt.Sprintf("\\%02x", b)
	}
	return string(rune(b))
}

func TestP2_2QuoteByHand(t *testing.T) {
	for _, x := range [][2]string{
		{"", `""`}, {"a", `"a"`}, {" ", `" "`}, {"~", `"~"`}, {"'", `"'"`}, {"/", `"/"`}, {"!", `"!"`}, {"#", `"#"`}, {"[", `"["`}, {"]", `"]"`},
		{`"`, `"\""`}, {`\`, `"\\"`}, {`\"`, `"\\\""`}, {`""`, `"\"\""`}, {`\0a`, `"\\0a"`},
		{"\x00", `"\00"`}, {"\x09", `"\09"`}, {"\n", `"\0a"`}, {"\r", `"\0d"`}, {"\x1f", `"\1f"`}, {"\x7f", `"\7f"`}, {"\x80", `"\80"`}, {"\xab", `"\ab"`}, {"\xff", `"\ff"`},
		{"é", `"\c3\a9"`}, {"\x000", `"\000"`}, {"a b\nc", `"a b\0ac"`}, {"€~", `"\e2\82\ac~"`}, {"\ufffd", `"\ef\bf\bd"`}, {"a\"\n", `"a\"\0a"`},
	} {
		if q := text.Quote(x[0]); q != x[1] {
			t.Errorf("Quote(%q): %s, not %s", x[0], q, x[1])
		}
		if s, ok := text.Unquote(x[1]); s != x[0] || !ok {
			t.Errorf("Unquote(%s): %q, %v", x[1], s, ok)
		}
	}
}

func TestP2_2QuoteOfAllBytes(t *testing.T) {
	for a := range 256 {
		one := string([]byte{byte(a)})
		if q := text.Quote(one); q != `"`+quoted(byte(a))+`"` {
			t.Errorf("Quote(%q): %s", one, q)
		}
		for b := range 256 {
			two := string([]byte{byte(a), byte(b)})
			if q := text.Quote(two); q != `"`+quoted(byte(a))+quoted(byte(b))+`"` {
				t.Fatalf("Quote(%q): %s", two, q)
			}
		}
	}
}

func TestP2_2NoQuotes(t *testing.T) {
	for _, s := range []string{
		"", `"`, "a", "ab", `a"`, `"a`, `a"b"`, `"a"b`, ` "a"`, `"a" `, `'a'`, "\"a\"\n", `""a""`, "`a`", `“a”`,
		`"""`, `""""`, `"a"b"`, `"a""b"`, `"\"`, `"\\\"`, `"a\"`, `"\\"\"`, `\"\"`, `\"a"`,
		`"\a"`, `"\0"`, `"\n"`, `"\t"`, `"\x0a"`, `"\ 0"`, `"\'"`, `"\/"`, `"\0 "`, `"\0g"`, `"\g0"`, `"\-1"`, `"\+1"`, `"\0A"`, `"\A0"`, `"\FF"`, `"\fF"`, `"\0\"`, `"\0\0"`, `"\00\"`, `"\0`, `"\00`, `"\0""`,
		`"\20"`, `"\22"`, `"\5c"`, `"\41"`, `"\61"`, `"\7e"`, `"\30"`, `"\23"`, `"\21"`, `"a\20b"`, `"\0a\5c"`,
		"\"\x00\"", "\"\n\"", "\"\x1f\"", "\"\x7f\"", "\"\x80\"", "\"\xff\"", "\"é\"", "\"a\xc3\"", "\"\\\x00\"", "\"\\\xff0\"", "\"\\0\xff\"", "\xff\"a\"", "\"a\"\xff", "\x00",
	} {
		if got, ok := text.Unquote(s); got != "" || ok {
			t.Errorf("Unquote(%q): %q, %v", s, got, ok)
		}
	}
}

// Of two digits of sixteen just those of bytes that do not stand as they are are taken, and just small ones.
func TestP2_2DigitsOfSixteen(t *testing.T) {
	for a := range 256 {
		for b := range 256 {
			pair := string([]byte{byte(a), byte(b)})
			want, can := "", false
			for n := range 256 {
				if (n < 32 || n > 126) && pair == fmt.Sprintf("%02x", n) {
					want, can = string([]byte{byte(n)}), true
				}
			}
			if pair[0] == '\\' || pair[0] == '"' {
				can = b >= 32 && b <= 126 && b != '\\' && b != '"'
				want = pair
			}
			if !can {
				want = ""
			}
			if s, ok := text.Unquote(`"\` + pair + `"`); s != want || ok != can {
				t.Fatalf("Unquote of \\ and %q: %q, %v, not %q, %v", pair, s, ok, want, can)
			}
		}
	}
}

// All texts of up to seven bytes of some: a quote is what Quote tells, and nothing else is.
func TestP2_2UnquoteUndoesQuoteAlone(t *testing.T) {
	const some = "\"\\07aF\x7f"
	tellable := map[string]string{}
	for _, s := range all("\"\\07aF\x7f\x00\x07\x0a\xaa\xa0\x70\x77\x7a", 3) {
		tellable[text.Quote(s)] = s
	}
	for _, s := range all("07aF", 5) {
		tellable[text.Quote(s)] = s
	}
	for _, inner := range all(some, 5) {
		for _, s := range []string{inner, `"` + inner, inner + `"`, `"` + inner + `"`} {
			got, ok := text.Unquote(s)
			if ok && text.Quote(got) != s || !ok && got != "" {
				t.Fatalf("Unquote(%q): %q, %v", s, got, ok)
			}
			if want, can := tellable[s]; can && (!ok || got != want) {
				t.Fatalf("Unquote(%q): %q, %v, not %q", s, got, ok, want)
			}
		}
	}
}

// all are all texts of up to n bytes of some.
func all(some string, n int) []string {
	l, last := []string{""}, []string{""}
	for range n {
		var next []string
		for _, s := range last {
			for at := range len(some) {
				next = append(next, s+some[at:at+1])
			}
		}
		l, last = append(l, next...), next
	}
	return l
}

func TestP2_2Digits(t *testing.T) {
	for _, x := range []struct {
		n int64
		s string
	}{
		{0, "0"}, {1, "1"}, {-1, "-1"}, {9, "9"}, {10, "10"}, {-10, "-10"}, {99, "99"}, {100, "100"}, {-100, "-100"}, {1234567890, "1234567890"},
		{math.MaxInt32, "2147483647"}, {math.MinInt32, "-2147483648"}, {math.MaxUint32 + 1, "4294967296"},
		{math.MaxInt64, "9223372036854775807"}, {math.MinInt64, "-9223372036854775808"}, {math.MinInt64 + 1, "-9223372036854775807"},
	} {
		if s := text.Digits(x.n); s != x.s {
			t.Errorf("Digits(%d): %s", x.n, s)
		}
	}
	for n := int64(1); n != 0; n <<= 1 {
		for _, m := range []int64{n, -n, n - 1, n + 1, ^n, n * 3, n ^ 0x5555} {
			if s := text.Digits(m); s != big.NewInt(m).String() {
				t.Errorf("Digits(%d): %s", m, s)
			}
		}
	}
}

func TestP2_3ThereAndBack(t *testing.T) {
	l := texts()
	for a := range 256 {
		for b := range 256 {
			l = append(l, string([]byte{byte(a), byte(b)}))
		}
	}
	seen := map[string]string{}
	for _, s := range append(l, all("\"\\0a\n", 5)...) {
		q := text.Quote(s)
		if got, ok := text.Unquote(q); got != s || !ok {
			t.Fatalf("Unquote(Quote(%s)): %s, %v", short(s), short(got), ok)
		}
		if other, there := seen[q]; there && other != s {
			t.Fatalf("%s and %s have one quote", short(s), short(other))
		}
		seen[q] = s
		for at := range len(q) {
			if q[at] < 32 || q[at] > 126 {
				t.Fatalf("Quote(%s): byte %d", short(s), q[at])
			}
		}
	}
}

func TestP2_4PartsJoined(t *testing.T) {
	for _, s := range texts() {
		for _, n := range []int{math.MinInt, -1, 0, 1, 2, 3, 4, 5, 17, 64, 100, 4096, 4097, math.MaxInt} {
			if got := strings.Join(text.Cut(s, n), ""); got != s {
				t.Errorf("Cut(%s, %d), joined: %s", short(s), n, short(got))
			}
		}
	}
}

func TestP2_4Brackets(t *testing.T) {
	l := texts()
	for i, a := range l {
		for j, b := range l {
			for _, c := range []string{"", "c", l[(i*7+j*3)%len(l)]} {
				if len(a)+len(b)+len(c) > api.MaxText {
					continue
				}
				left, ok1 := text.Cat(a, b)
				left, ok2 := text.Cat(left, c)
				right, ok3 := text.Cat(b, c)
				right, ok4 := text.Cat(a, right)
				if left != right || left != a+b+c || !ok1 || !ok2 || !ok3 || !ok4 {
					t.Fatalf("%s, %s, %s: %s, %s", short(a), short(b), short(c), short(left), short(right))
				}
			}
		}
	}
}

func TestExamples(t *testing.T) {
	if q := text.Quote("a\"\x0a"); q != `"a\"\0a"` {
		t.Error(q)
	}
}
