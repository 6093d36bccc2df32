package wire_test

import (
	"bytes"
	"encoding/binary"
	"encoding/hex"
	"fmt"
	"math"
	"math/big"
	"slices"
	"strings"
	"testing"

	"hallmark/api"
	"hallmark/wire"
)

const (
	least    = math.MinInt64
	greatest = math.MaxInt64
)

// hexed is bytes from digits of sixteen, with blanks where they help the eye.
func hexed(s string) []byte {
	b, err := hex.DecodeString(strings.ReplaceAll(s, " ", ""))
	if err != nil {
		panic(err)
	}
	return b
}

// told is what the chapter says of a number, by numbers without bounds.
func told(n int64) []byte {
	z := new(big.Int).Mul(big.NewInt(n), big.NewInt(2))
	if n < 0 {
		z.Sub(big.NewInt(-1), big.NewInt(n))
		z.Mul(z, big.NewInt(2))
		z.Add(z, big.NewInt(1))
	}
	var l []byte
	low, by := new(big.Int), big.NewInt(128)
	for z.Cmp(by) >= 0 {
		z.DivMod(z, by, low)
		l = append(l, byte(low.Uint64()+128))
	}
	return append(l, byte(z.Uint64()))
}

// taken is what the chapter says of bytes that shall begin with a number: it is read byte by byte, by numbers without bounds.
func taken(b []byte) (int64, []byte, api.Errno) {
	z, power := new(big.Int), big.NewInt(1)
	for at := 0; ; at++ {
		if at == len(b) {
			return 0, nil, api.ErrShort
		}
		if at == 9 && b[at] > 1 {
			return 0, nil, api.ErrForm
		}
		if at != 0 && b[at] == 0 {
			return 0, nil, api.ErrForm
		}
		z.Add(z, new(big.Int).Mul(power, big.NewInt(int64(b[at]%128))))
		power.Mul(power, big.NewInt(128))
		if b[at] >= 128 {
			continue
		}
		half, odd := new(big.Int).DivMod(z, big.NewInt(2), new(big.Int))
		if odd.Sign() != 0 {
			half.Sub(big.NewInt(-1), half)
		}
		return half.Int64(), b[at+1:], api.OK
	}
}

// numbers are edges, where one more byte begins on both sides among them, and some from the middle that are always the same ones.
func numbers() []int64 {
	l := []int64{0, 1, -1, 2, -2, 3, -3, 62, 63, 64, 65, -62, -63, -64, -65, -66, 127, 128, 129, -127, -128, -129, 255, 256, 1000, -1000, greatest, greatest - 1, least, least + 1}
	for bit := range 63 {
		power := int64(1) << bit
		l = append(l, power-1, power, power+1, -power-1, -power, -power+1)
	}
	n := uint64(88172645463325252)
	for range 300 {
		n ^= n << 13
		n ^= n >> 7
		n ^= n << 17
		l = append(l, int64(n), int64(n)>>(n%60))
	}
	return l
}

// pieces are bytes that stand ahead, or behind.
func pieces() [][]byte {
	return [][]byte{nil, {}, {0}, {1}, {0x7f}, {0x80}, {0xff}, {0, 0}, {0x80, 0}, []byte("bytes"), hexed("ff ff ff ff ff ff ff ff ff ff ff ff"), hexed("80 80 80 80 80 80 80 80 80 01"), bytes.Repeat([]byte{0xa5}, 300)}
}

// texts are ordinary ones, and edges.
func texts() []string {
	l := []string{"", "a", "ab", "hallmark", "two words", "\x00", "\x80", "\xff", "\x00\x00", "\x80\x00", "é", "日本", "line\nline"}
	for _, n := range []int{62, 63, 64, 65, 127, 128, 4096, 8191, 8192, 20000} {
		l = append(l, strings.Repeat("x", n), strings.Repeat("\xfe", n))
	}
	return l
}

// lists are ordinary ones, and edges.
func lists() [][]int64 {
	l := [][]int64{nil, {}, {0}, {1}, {-1}, {0, 0, 0}, {1, 2, 3}, {63, 64, -64, -65}, {least, greatest, 0, -1}, numbers()}
	for _, n := range []int{62, 63, 64, 65, 8191, 8192} {
		l = append(l, make([]int64, n), slices.Repeat([]int64{least}, n))
	}
	return l
}

// joined is all pieces, one behind the other, in memory of their own.
func joined(l ...[]byte) []byte {
	return bytes.Join(l, nil)
}

// textBytes and listBytes are what the chapter says of a text, and a list.
func textBytes(s string) []byte {
	return joined(told(int64(len(s))), []byte(s))
}

func listBytes(l []int64) []byte {
	b := told(int64(len(l)))
	for _, n := range l {
		b = append(b, told(n)...)
	}
	return b
}

// short is bytes for a message.
func short(b []byte) string {
	if len(b) > 24 {
		return fmt.Sprintf("% x and on, %d bytes", b[:24], len(b))
	}
	return fmt.Sprintf("% x", b)
}

// byHand are numbers whose bytes were written by hand from the chapter.
var byHand = []struct {
	n int64
	b string
}{
	{0, "00"}, {-1, "01"}, {1, "02"}, {-2, "03"}, {2, "04"}, {-3, "05"},
	{62, "7c"}, {63, "7e"}, {64, "80 01"}, {65, "82 01"}, {-63, "7d"}, {-64, "7f"}, {-65, "81 01"}, {-66, "83 01"},
	{127, "fe 01"}, {128, "80 02"}, {-128, "ff 01"}, {-129, "81 02"}, {1000, "d0 0f"}, {-1000, "cf 0f"},
	{8191, "fe 7f"}, {8192, "80 80 01"}, {-8192, "ff 7f"}, {-8193, "81 80 01"},
	{1 << 32, "80 80 80 80 20"}, {-1 << 32, "ff ff ff ff 1f"},
	{1<<62 - 1, "fe ff ff ff ff ff ff ff 7f"}, {1 << 62, "80 80 80 80 80 80 80 80 80 01"},
	{-1 << 62, "ff ff ff ff ff ff ff ff 7f"}, {-1<<62 - 1, "81 80 80 80 80 80 80 80 80 01"},
	{greatest, "fe ff ff ff ff ff ff ff ff 01"}, {greatest - 1, "fc ff ff ff ff ff ff ff ff 01"},
	{least, "ff ff ff ff ff ff ff ff ff 01"}, {least + 1, "fd ff ff ff ff ff ff ff ff 01"},
}

func TestP3_1PutByHand(t *testing.T) {
	for _, x := range byHand {
		if b := wire.Put(nil, x.n); !bytes.Equal(b, hexed(x.b)) {
			t.Errorf("Put of %d: % x", x.n, b)
		}
	}
}

func TestP3_1TakeByHand(t *testing.T) {
	for _, x := range byHand {
		if n, rest, err := wire.Take(hexed(x.b + "05 80")); n != x.n || !bytes.Equal(rest, []byte{5, 128}) || err != api.OK {
			t.Errorf("Take of %s: %d, % x, %d", x.b, n, rest, err)
		}
		if n, rest, err := wire.Take(hexed(x.b)); n != x.n || len(rest) != 0 || err != api.OK {
			t.Errorf("Take of %s alone: %d, % x, %d", x.b, n, rest, err)
		}
	}
}

func TestP3_1PutBehindAnything(t *testing.T) {
	for _, n := range numbers() {
		for _, ahead := range pieces() {
			if b := wire.Put(ahead, n); !bytes.Equal(b, joined(ahead, told(n))) {
				t.Fatalf("Put behind %s, of %d: %s", short(ahead), n, short(b))
			}
		}
		if z := binary.AppendVarint(nil, n); !bytes.Equal(wire.Put(nil, n), z) {
			t.Fatalf("Put of %d: % x, not % x", n, wire.Put(nil, n), z)
		}
	}
}

func TestP3_1TakeWrong(t *testing.T) {
	for _, x := range []struct {
		b   string
		err api.Errno
	}{
		{"", api.ErrShort}, {"80", api.ErrShort}, {"ff", api.ErrShort}, {"80 80", api.ErrShort}, {"81 ff", api.ErrShort},
		{"80 80 80 80 80 80 80 80", api.ErrShort}, {"ff ff ff ff ff ff ff ff ff", api.ErrShort}, {"80 80 80 80 80 80 80 80 80", api.ErrShort},
		// A last byte of 0 that is not the first.
		{"80 00", api.ErrForm}, {"ff 00", api.ErrForm}, {"81 00", api.ErrForm}, {"80 00 01", api.ErrForm}, {"80 80 00", api.ErrForm}, {"ff ff ff ff 00", api.ErrForm},
		{"80 80 80 80 80 80 80 80 00", api.ErrForm},
		// A tenth byte of 0, and above 1, with nothing and with more behind it.
		{"80 80 80 80 80 80 80 80 80 00", api.ErrForm}, {"ff ff ff ff ff ff ff ff ff 00", api.ErrForm}, {"ff ff ff ff ff ff ff ff ff 00 01", api.ErrForm},
		{"80 80 80 80 80 80 80 80 80 02", api.ErrForm}, {"ff ff ff ff ff ff ff ff ff 02", api.ErrForm}, {"ff ff ff ff ff ff ff ff ff 03", api.ErrForm},
		{"ff ff ff ff ff ff ff ff ff 7f", api.ErrForm}, {"ff ff ff ff ff ff ff ff ff 80", api.ErrForm}, {"ff ff ff ff ff ff ff ff ff 81", api.ErrForm},
		{"80 80 80 80 80 80 80 80 80 80", api.ErrForm}, {"80 80 80 80 80 80 80 80 80 81 00", api.ErrForm}, {"ff ff ff ff ff ff ff ff ff ff ff", api.ErrForm}, {"80 80 80 80 80 80 80 80 80 81 01", api.ErrForm},
	} {
		if n, rest, err := wire.Take(hexed(x.b)); n != 0 || len(rest) != 0 || err != x.err {
			t.Errorf("Take of %s: %d, % x, %d, not %d", x.b, n, rest, err, x.err)
		}
	}
}

// A first byte of 0 is the number 0, and what follows is not looked at.
func TestP3_1TakeFirstNought(t *testing.T) {
	for _, behind := range pieces() {
		if n, rest, err := wire.Take(joined([]byte{0}, behind)); n != 0 || !bytes.Equal(rest, behind) || err != api.OK {
			t.Errorf("0, then %s: %d, %s, %d", short(behind), n, short(rest), err)
		}
	}
}

// heldAgainst lets Take answer for bytes, and the chapter.
func heldAgainst(t *testing.T, b []byte) {
	t.Helper()
	n, rest, err := wire.Take(b)
	wantN, wantRest, wantErr := taken(b)
	if n != wantN || !bytes.Equal(rest, wantRest) || err != wantErr {
		t.Fatalf("Take of %s: %d, %s, %d, not %d, %s, %d", short(b), n, short(rest), err, wantN, short(wantRest), wantErr)
	}
}

func TestP3_1TakeOfAllShortBytes(t *testing.T) {
	heldAgainst(t, nil)
	for x := range 256 {
		heldAgainst(t, []byte{byte(x)})
		for y := range 256 {
			heldAgainst(t, []byte{byte(x), byte(y)})
			for _, z := range []byte{0, 1, 2, 0x7f, 0x80, 0x81, 0xff} {
				heldAgainst(t, []byte{byte(x), byte(y), z})
			}
		}
	}
}

func TestP3_1TakeAtEachByte(t *testing.T) {
	for _, filler := range []byte{0x80, 0x81, 0xaa, 0xff} {
		for ahead := range 13 {
			for x := range 256 {
				for _, behind := range [][]byte{nil, {0}, {1}, {0x80}, {0xff, 1}} {
					heldAgainst(t, joined(bytes.Repeat([]byte{filler}, ahead), []byte{byte(x)}, behind))
				}
			}
		}
	}
}

// A change of any one byte of a number's bytes is told as the chapter says.
func TestP3_1TakeOfChangedBytes(t *testing.T) {
	for _, n := range numbers() {
		b := joined(told(n), []byte{7})
		for at := range b {
			for _, by := range []byte{1, 2, 0x7f, 0x80, 0xff} {
				changed := bytes.Clone(b)
				changed[at] ^= by
				heldAgainst(t, changed)
			}
		}
	}
}

func TestP3_2TextByHand(t *testing.T) {
	for _, x := range []struct {
		s string
		b string
	}{
		{"", "00"}, {"a", "02 61"}, {"ab", "04 61 62"}, {"\x00", "02 00"}, {"\xff\x80", "04 ff 80"}, {"é", "04 c3 a9"},
		{strings.Repeat("x", 63), "7e" + strings.Repeat("78", 63)}, {strings.Repeat("x", 64), "80 01" + strings.Repeat("78", 64)},
	} {
		if b := wire.PutText([]byte{9}, x.s); !bytes.Equal(b, hexed("09"+x.b)) {
			t.Errorf("PutText of %q: %s", x.s, short(b))
		}
		if s, rest, err := wire.TakeText(hexed(x.b+"09 80"), len(x.s)); s != x.s || !bytes.Equal(rest, []byte{9, 128}) || err != api.OK {
			t.Errorf("TakeText of %s: %q, % x, %d", x.b, s, rest, err)
		}
	}
}

func TestP3_2ListByHand(t *testing.T) {
	for _, x := range []struct {
		l []int64
		b string
	}{
		{nil, "00"}, {[]int64{0}, "02 00"}, {[]int64{-1, 1}, "04 01 02"}, {[]int64{64, 0, -65}, "06 80 01 00 81 01"},
		{[]int64{least}, "02 ff ff ff ff ff ff ff ff ff 01"}, {make([]int64, 64), "80 01" + strings.Repeat("00", 64)},
	} {
		if b := wire.PutList([]byte{9}, x.l); !bytes.Equal(b, hexed("09"+x.b)) {
			t.Errorf("PutList of %v: %s", x.l, short(b))
		}
		if l, rest, err := wire.TakeList(hexed(x.b+"09 80"), len(x.l)); !slices.Equal(l, x.l) || !bytes.Equal(rest, []byte{9, 128}) || err != api.OK {
			t.Errorf("TakeList of %s: %v, % x, %d", x.b, l, rest, err)
		}
	}
}

func TestP3_2PutBehindAnything(t *testing.T) {
	for _, ahead := range pieces() {
		for _, s := range texts() {
			if b := wire.PutText(ahead, s); !bytes.Equal(b, joined(ahead, textBytes(s))) {
				t.Fatalf("PutText behind %s, of %d bytes: %s", short(ahead), len(s), short(b))
			}
		}
		for _, l := range lists() {
			if b := wire.PutList(ahead, l); !bytes.Equal(b, joined(ahead, listBytes(l))) {
				t.Fatalf("PutList behind %s, of %d numbers: %s", short(ahead), len(l), short(b))
			}
		}
	}
}

// mosts are bounds about a length, each with whether that is within it.
func mosts(n int) map[int]bool {
	return map[int]bool{n: true, n + 1: true, n + 1000: true, greatest: true, n - 1: false, -1: false, -n - 1: false, least: false}
}

func TestP3_2TakeText(t *testing.T) {
	for _, s := range texts() {
		for _, behind := range pieces() {
			b := joined(textBytes(s), behind)
			for most, fits := range mosts(len(s)) {
				got, rest, err := wire.TakeText(b, most)
				switch {
				case fits && (got != s || !bytes.Equal(rest, behind) || err != api.OK):
					t.Fatalf("%d bytes, most %d: %d bytes, %s, %d", len(s), most, len(got), short(rest), err)
				case !fits && (got != "" || len(rest) != 0 || err != api.ErrLong):
					t.Fatalf("%d bytes, most %d: %d bytes, %s, %d, not ErrLong", len(s), most, len(got), short(rest), err)
				}
			}
		}
	}
}

func TestP3_2TakeList(t *testing.T) {
	for _, l := range lists() {
		for _, behind := range pieces() {
			b := joined(listBytes(l), behind)
			for most, fits := range mosts(len(l)) {
				got, rest, err := wire.TakeList(b, most)
				switch {
				case fits && (!slices.Equal(got, l) || !bytes.Equal(rest, behind) || err != api.OK):
					t.Fatalf("%d numbers, most %d: %d numbers, %s, %d", len(l), most, len(got), short(rest), err)
				case !fits && (len(got) != 0 || len(rest) != 0 || err != api.ErrLong):
					t.Fatalf("%d numbers, most %d: %d numbers, %s, %d, not ErrLong", len(l), most, len(got), short(rest), err)
				}
			}
		}
	}
}

// fails holds against an error what both calls answer, with nothing beside it.
func fails(t *testing.T, b []byte, most int, text, list api.Errno) {
	t.Helper()
	if s, rest, err := wire.TakeText(b, most); s != "" || len(rest) != 0 || err != text {
		t.Errorf("TakeText of %s, most %d: %q, %s, %d, not %d", short(b), most, s, short(rest), err, text)
	}
	if l, rest, err := wire.TakeList(b, most); len(l) != 0 || len(rest) != 0 || err != list {
		t.Errorf("TakeList of %s, most %d: %v, %s, %d, not %d", short(b), most, l, short(rest), err, list)
	}
}

// The length's own error comes ahead of all others, whatever most is.
func TestP3_2LengthThatIsNone(t *testing.T) {
	for _, most := range []int{least, -1, 0, 1, 100, greatest} {
		for _, b := range []string{"", "80", "ff ff", "ff ff ff ff ff ff ff ff ff"} {
			fails(t, hexed(b), most, api.ErrShort, api.ErrShort)
		}
		for _, b := range []string{"80 00", "81 00 61", "ff ff ff ff ff ff ff ff ff 00", "ff ff ff ff ff ff ff ff ff 02", "80 80 80 80 80 80 80 80 80 80 01"} {
			fails(t, hexed(b), most, api.ErrForm, api.ErrForm)
		}
	}
}

// A length below 0 is a wrong form, also where most is below it.
func TestP3_2LengthBelowNought(t *testing.T) {
	for _, n := range []int64{-1, -2, -64, -65, -1 << 32, least + 1, least} {
		for _, most := range []int{least, -2, -1, 0, 1, greatest} {
			for _, behind := range pieces() {
				fails(t, joined(told(n), behind), most, api.ErrForm, api.ErrForm)
			}
		}
	}
}

// A length above most is too long, also where there are not so many bytes behind.
func TestP3_2LengthAboveMost(t *testing.T) {
	for _, x := range []struct {
		n    int64
		most int
	}{{0, -1}, {0, least}, {1, 0}, {1, -1}, {2, 1}, {64, 63}, {65, 64}, {4097, 4096}, {1 << 32, 1<<32 - 1}, {greatest, greatest - 1}, {greatest, 0}, {greatest, least}} {
		for _, behind := range pieces() {
			fails(t, joined(told(x.n), behind), x.most, api.ErrLong, api.ErrLong)
		}
	}
}

// A length that is within most, of more than there is: it ends too early, and takes no room for what is not there.
func TestP3_2LengthBeyondTheEnd(t *testing.T) {
	for _, n := range []int64{1, 2, 63, 64, 4096, 1 << 31, 1 << 32, 1 << 62, greatest} {
		fails(t, told(n), greatest, api.ErrShort, api.ErrShort)
		fails(t, told(n), int(n), api.ErrShort, api.ErrShort)
	}
	for _, n := range []int64{4, 100, 1 << 40, greatest} {
		fails(t, joined(told(n), []byte{1, 2, 3}), greatest, api.ErrShort, api.ErrShort)
	}
}

func TestP3_2TooEarly(t *testing.T) {
	for _, s := range texts() {
		b := textBytes(s)
		for end := range min(len(b), 300) {
			if got, rest, err := wire.TakeText(b[:end], len(s)); got != "" || len(rest) != 0 || err != api.ErrShort {
				t.Fatalf("%d of %d bytes: %q, %s, %d", end, len(b), got, short(rest), err)
			}
		}
		if got, rest, err := wire.TakeText(b[:len(b)-1], len(s)); got != "" || len(rest) != 0 || err != api.ErrShort {
			t.Fatalf("all but one of %d bytes: %q, %s, %d", len(b), got, short(rest), err)
		}
	}
	for _, l := range lists() {
		b := listBytes(l)
		for end := range min(len(b), 300) {
			if got, rest, err := wire.TakeList(b[:end], len(l)); len(got) != 0 || len(rest) != 0 || err != api.ErrShort {
				t.Fatalf("%d of %d bytes: %v, %s, %d", end, len(b), got, short(rest), err)
			}
		}
		if got, rest, err := wire.TakeList(b[:len(b)-1], len(l)); len(got) != 0 || len(rest) != 0 || err != api.ErrShort {
			t.Fatalf("all but one of %d bytes: %v, %s, %d", len(b), got, short(rest), err)
		}
	}
}

// Bytes that a slice has in its spare room are not behind: they are not read.
func TestP3_2SpareRoomIsNotRead(t *testing.T) {
	text, list := hexed("06 61 62 63"), hexed("04 02 80 01")
	if s, rest, err := wire.TakeText(text[:3], 9); s != "" || len(rest) != 0 || err != api.ErrShort {
		t.Error(s, rest, err)
	}
	for end := range list {
		if l, rest, err := wire.TakeList(list[:end], 9); len(l) != 0 || len(rest) != 0 || err != api.ErrShort {
			t.Error(end, l, rest, err)
		}
	}
}

// A list's numbers are read in order: the first that is wrong is told, though there are too few behind it.
func TestP3_2ListInOrder(t *testing.T) {
	for _, x := range []struct {
		b   string
		err api.Errno
	}{
		{"06 02 80 00", api.ErrForm}, {"06 80 00", api.ErrForm}, {"06 02 04 80", api.ErrShort}, {"06 02 04", api.ErrShort}, {"06 80", api.ErrShort},
		{"04 02 80 00 80", api.ErrForm}, {"04 ff ff ff ff ff ff ff ff ff 02 00", api.ErrForm}, {"04 00 ff ff ff ff ff ff ff ff ff", api.ErrShort},
		{"02 80 80 80 80 80 80 80 80 80 00", api.ErrForm}, {"02 80 80 80 80 80 80 80 80 80 80", api.ErrForm}, {"fe ff ff ff ff ff ff ff ff 01 80 00", api.ErrForm},
	} {
		if l, rest, err := wire.TakeList(hexed(x.b), greatest); len(l) != 0 || len(rest) != 0 || err != x.err {
			t.Errorf("TakeList of %s: %v, %s, %d, not %d", x.b, l, short(rest), err, x.err)
		}
	}
	// What a list does not count is behind it, however wrong it is as a number.
	if l, rest, err := wire.TakeList(hexed("04 02 04 80 00"), 2); !slices.Equal(l, []int64{1, 2}) || !bytes.Equal(rest, []byte{0x80, 0}) || err != api.OK {
		t.Error(l, rest, err)
	}
	// A text has just so many bytes as it says, whatever they are as numbers.
	if s, rest, err := wire.TakeText(hexed("04 80 00 80 00"), 2); s != "\x80\x00" || !bytes.Equal(rest, []byte{0x80, 0}) || err != api.OK {
		t.Errorf("%q %v %d", s, rest, err)
	}
}

func TestP3_3ThereAndBack(t *testing.T) {
	for _, n := range numbers() {
		for _, behind := range pieces() {
			b := joined(wire.Put(nil, n), behind)
			if got, rest, err := wire.Take(b); got != n || !bytes.Equal(rest, behind) || err != api.OK {
				t.Fatalf("%d, with %s behind: %d, %s, %d", n, short(behind), got, short(rest), err)
			}
		}
	}
}

func TestP3_3NoOtherNumber(t *testing.T) {
	seen := map[string]int64{}
	hold := func(n int64) {
		b := string(wire.Put(nil, n))
		if other, ok := seen[b]; ok && other != n {
			t.Fatalf("%d and %d are both % x", n, other, b)
		}
		seen[b] = n
	}
	for n := int64(-20000); n <= 20000; n++ {
		hold(n)
	}
	for _, n := range numbers() {
		hold(n)
	}
}

// What Take has taken is what Put tells of it: no number has a second form.
func TestP3_3OneForm(t *testing.T) {
	hold := func(b []byte) {
		n, rest, err := wire.Take(b)
		if err == api.OK && !bytes.Equal(b, wire.Put(nil, n)) && !bytes.Equal(b, joined(wire.Put(nil, n), rest)) {
			t.Fatalf("Take of % x: %d, which is % x", b, n, wire.Put(nil, n))
		}
	}
	for z := range 1 << 16 {
		hold([]byte{byte(z), byte(z >> 8)})
		hold([]byte{byte(z) | 0x80, byte(z >> 8), 0})
		hold([]byte{byte(z) | 0x80, byte(z>>8) | 0x80, 0})
		hold([]byte{byte(z) | 0x80, byte(z>>8) | 0x80, 1})
	}
	for ahead := range 12 {
		for x := range 256 {
			hold(append(bytes.Repeat([]byte{0x80}, ahead), byte(x)))
			hold(append(bytes.Repeat([]byte{0xff}, ahead), byte(x)))
		}
	}
}

func TestP3_3TextsAndListsThereAndBack(t *testing.T) {
	for _, s := range texts() {
		for _, l := range lists() {
			b := wire.Put(wire.PutList(wire.PutText(wire.Put(nil, -7), s), l), least)
			n, b, err := wire.Take(b)
			if n != -7 || err != api.OK {
				t.Fatal(n, err)
			}
			gotS, b, err := wire.TakeText(b, len(s))
			if gotS != s || err != api.OK {
				t.Fatalf("%d bytes: %d bytes, %d", len(s), len(gotS), err)
			}
			gotL, b, err := wire.TakeList(b, len(l))
			if !slices.Equal(gotL, l) || err != api.OK {
				t.Fatalf("%d numbers: %d numbers, %d", len(l), len(gotL), err)
			}
			if n, b, err = wire.Take(b); n != least || len(b) != 0 || err != api.OK {
				t.Fatal(n, b, err)
			}
		}
	}
}

func TestP3_4NoBeginning(t *testing.T) {
	for _, n := range numbers() {
		b := wire.Put(nil, n)
		for end := range b {
			if got, rest, err := wire.Take(b[:end]); got != 0 || len(rest) != 0 || err != api.ErrShort {
				t.Fatalf("%d without its last %d bytes: %d, % x, %d", n, len(b)-end, got, rest, err)
			}
		}
	}
}

// roomy is bytes with spare room that is full of a mark.
func roomy(b []byte) []byte {
	l := append(bytes.Clone(b), bytes.Repeat([]byte{0x5a}, 64)...)
	return l[:len(b)]
}

// fill writes over all of a slice, its spare room included.
func fill(b []byte) {
	b = b[:cap(b)]
	for at := range b {
		b[at] ^= 0xff
	}
}

// Memory: neither what is handed in nor its spare room is changed, and an answer shares nothing with it.
func TestPutsKeepApart(t *testing.T) {
	list := []int64{1, 300, least}
	puts := map[string]func([]byte) []byte{
		"Put":      func(b []byte) []byte { return wire.Put(b, least) },
		"PutText":  func(b []byte) []byte { return wire.PutText(b, "a text") },
		"PutNone":  func(b []byte) []byte { return wire.PutText(b, "") },
		"PutList":  func(b []byte) []byte { return wire.PutList(b, list) },
		"PutEmpty": func(b []byte) []byte { return wire.PutList(b, nil) },
	}
	for name, put := range puts {
		for _, ahead := range pieces() {
			in := roomy(ahead)
			before := bytes.Clone(in[:cap(in)])
			one, two := put(in), put(in)
			kept := bytes.Clone(two)
			fill(one)
			if !bytes.Equal(in[:cap(in)], before) || !bytes.Equal(two, kept) {
				t.Errorf("%s behind %s: memory is shared, or changed", name, short(ahead))
			}
			fill(in)
			if !bytes.Equal(two, kept) {
				t.Errorf("%s behind %s: its answer hangs on what was handed in", name, short(ahead))
			}
		}
	}
	if !slices.Equal(list, []int64{1, 300, least}) {
		t.Error("the list was changed:", list)
	}
}

// takes are the calls that read, each with bytes ahead of what stays behind.
func takes() map[string]func() ([]byte, func([]byte) []byte) {
	return map[string]func() ([]byte, func([]byte) []byte){
		"Take": func() ([]byte, func([]byte) []byte) {
			return hexed("80 01"), func(b []byte) []byte { _, rest, _ := wire.Take(b); return rest }
		},
		"TakeText": func() ([]byte, func([]byte) []byte) {
			return hexed("04 61 62"), func(b []byte) []byte { _, rest, _ := wire.TakeText(b, 2); return rest }
		},
		"TakeList": func() ([]byte, func([]byte) []byte) {
			return hexed("04 02 80 01"), func(b []byte) []byte { _, rest, _ := wire.TakeList(b, 2); return rest }
		},
	}
}

func TestTakesKeepApart(t *testing.T) {
	for name, of := range takes() {
		for _, behind := range pieces() {
			ahead, take := of()
			in := roomy(joined(ahead, behind))
			before := bytes.Clone(in[:cap(in)])
			one, two := take(in), take(in)
			fill(one)
			if !bytes.Equal(in[:cap(in)], before) || !bytes.Equal(two, behind) {
				t.Errorf("%s, with %s behind: memory is shared, or changed", name, short(behind))
			}
			fill(in)
			if !bytes.Equal(two, behind) {
				t.Errorf("%s, with %s behind: its answer hangs on what was handed in", name, short(behind))
			}
		}
	}
}

func TestTakenTextsAndListsKeepApart(t *testing.T) {
	b := wire.PutText(nil, "a text")
	s, _, _ := wire.TakeText(b, 6)
	fill(b)
	if s != "a text" {
		t.Errorf("the text hangs on the bytes: %q", s)
	}
	b = wire.PutList(nil, []int64{1, 2, 3})
	one, _, _ := wire.TakeList(b, 3)
	two, _, _ := wire.TakeList(b, 3)
	for at := range one {
		one[at] = 9
	}
	_ = append(one, 9)
	fill(b)
	if !slices.Equal(two, []int64{1, 2, 3}) {
		t.Error("two lists share memory:", two)
	}
}

// Room is made for what is there, not for what a length promises.
func TestNoRoomForWhatIsNotThere(t *testing.T) {
	b := joined(told(greatest), told(1), told(2))
	if made := testing.AllocsPerRun(10, func() { wire.TakeList(b, greatest) }); made > 10 {
		t.Error("times that memory was made:", made)
	}
}

func FuzzTake(f *testing.F) {
	for _, x := range byHand {
		f.Add(hexed(x.b + "00"))
	}
	f.Fuzz(func(t *testing.T, b []byte) {
		heldAgainst(t, b)
	})
}
