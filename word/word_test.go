package word_test

import (
	"math"
	"math/big"
	"slices"
	"testing"

	"hallmark/api"
	"hallmark/word"
)

const (
	least    = math.MinInt64
	greatest = math.MaxInt64
)

// signs are api's 14, in their order.
var signs = []int{
	api.Add, api.Sub, api.Mul, api.Div, api.Rem, api.And, api.Or,
	api.Xor, api.Shl, api.Shr, api.Less, api.Most, api.Same, api.Else,
}

// strangers are no signs, some of them signs in their lowest bits alone.
var strangers = []int{
	-1, -2, -14, 14, 15, 16, 64, 255, 256, 1 << 16, 1 << 32, 1<<32 + 1, -1 << 32,
	math.MaxInt32, math.MinInt32, math.MaxInt, math.MinInt,
}

// numbers are edges, and some from the middle that are always the same ones.
func numbers() []int64 {
	l := []int64{
		0, 1, -1, 2, -2, 3, -3, 5, -5, 7, -7, 10, -10, 31, 32, 33, 62, 63, 64, 65, 66, 127, 128, 129,
		-31, -32, -33, -62, -63, -64, -65, -66, -127, -128, -129, 1000, -1000,
		math.MaxInt32, math.MinInt32, math.MaxUint32, math.MaxUint32 + 1, -math.MaxUint32,
		3037000499, 3037000500, -3037000500, 1 << 62, -1 << 62, 1<<62 + 1, 1<<62 - 1,
		greatest, greatest - 1, greatest - 63, least, least + 1, least + 64,
	}
	n := uint64(88172645463325252)
	for range 40 {
		n ^= n << 13
		n ^= n >> 7
		n ^= n << 17
		l = append(l, int64(n), int64(n)>>(n%60))
	}
	return l
}

// must is what Arith comes to where it has to answer true.
func must(t *testing.T, sign int, a, b int64) int64 {
	t.Helper()
	n, ok := word.Arith(sign, a, b)
	if !ok {
		t.Fatalf("Arith(%d, %d, %d): false", sign, a, b)
	}
	return n
}

// wrapped is n modulo 2^64, with a sign.
func wrapped(n *big.Int) int64 {
	low := new(big.Int).And(n, new(big.Int).SetUint64(math.MaxUint64))
	return int64(low.Uint64())
}

func truth(is bool) int64 {
	if is {
		return 1
	}
	return 0
}

// reckoned is what the chapter says of a sign, by numbers without bounds.
func reckoned(sign int, a, b int64) (int64, bool) {
	x, y, z := big.NewInt(a), big.NewInt(b), new(big.Int)
	by := uint(new(big.Int).Mod(y, big.NewInt(64)).Uint64())
	switch sign {
	case api.Add:
		z.Add(x, y)
	case api.Sub:
		z.Sub(x, y)
	case api.Mul:
		z.Mul(x, y)
	case api.Div:
		if b == 0 {
			return 0, false
		}
		z.Quo(x, y)
	case api.Rem:
		if b == 0 {
			return 0, false
		}
		z.Sub(x, z.Mul(y, new(big.Int).Quo(x, y)))
	case api.And:
		z.And(x, y)
	case api.Or:
		z.Or(x, y)
	case api.Xor:
		z.Xor(x, y)
	case api.Shl:
		z.Lsh(x, by)
	case api.Shr:
		z.Rsh(x, by)
	case api.Less:
		return truth(x.Cmp(y) < 0), true
	case api.Most:
		return truth(x.Cmp(y) <= 0), true
	case api.Same:
		return truth(x.Cmp(y) == 0), true
	case api.Else:
		return truth(x.Cmp(y) != 0), true
	default:
		return 0, false
	}
	return wrapped(z), true
}

func TestP1_1Can(t *testing.T) {
	for _, sign := range signs {
		if !word.Can(sign) {
			t.Error("no sign:", sign)
		}
	}
	for _, sign := range strangers {
		if word.Can(sign) {
			t.Error("a sign:", sign)
		}
	}
}

func TestP1_1ArithByHand(t *testing.T) {
	for _, x := range []struct {
		sign    int
		a, b, n int64
	}{
		{api.Add, 2, 3, 5}, {api.Add, -2, -3, -5}, {api.Add, greatest, 1, least},
		{api.Add, least, -1, greatest}, {api.Add, least, least, 0}, {api.Add, greatest, greatest, -2},
		{api.Sub, 2, 3, -1}, {api.Sub, 3, 2, 1}, {api.Sub, least, 1, greatest},
		{api.Sub, greatest, -1, least}, {api.Sub, 0, least, least}, {api.Sub, -1, least, greatest},
		{api.Mul, 6, 7, 42}, {api.Mul, -6, 7, -42}, {api.Mul, 1 << 62, 2, least},
		{api.Mul, 1 << 32, 1 << 32, 0}, {api.Mul, greatest, greatest, 1}, {api.Mul, greatest, 2, -2},
		{api.Mul, least, -1, least}, {api.Mul, least, 2, 0},
		{api.Div, 7, 2, 3}, {api.Div, -7, 2, -3}, {api.Div, 7, -2, -3}, {api.Div, -7, -2, 3},
		{api.Div, 1, 2, 0}, {api.Div, -1, 2, 0}, {api.Div, least, -1, least}, {api.Div, least, 1, least},
		{api.Div, greatest, -1, -greatest}, {api.Div, least, least, 1}, {api.Div, 0, -3, 0},
		{api.Rem, 7, 2, 1}, {api.Rem, -7, 2, -1}, {api.Rem, 7, -2, 1}, {api.Rem, -7, -2, -1},
		{api.Rem, least, -1, 0}, {api.Rem, least, 1, 0}, {api.Rem, 5, least, 5}, {api.Rem, least, greatest, -1},
		{api.And, 6, 3, 2}, {api.And, -1, least, least}, {api.And, -4, 7, 4},
		{api.Or, 6, 3, 7}, {api.Or, least, 1, least + 1}, {api.Or, -4, 1, -3},
		{api.Xor, 6, 3, 5}, {api.Xor, -1, 0, -1}, {api.Xor, -1, greatest, least}, {api.Xor, -1, -1, 0},
		{api.Shl, 1, 3, 8}, {api.Shl, 1, 63, least}, {api.Shl, 1, 64, 1}, {api.Shl, 1, 65, 2},
		{api.Shl, 1, -1, least}, {api.Shl, 1, -63, 2}, {api.Shl, 1, -64, 1}, {api.Shl, 3, 63, least},
		{api.Shl, 5, least, 5}, {api.Shl, 1, greatest, least}, {api.Shl, 1, 1 << 32, 1}, {api.Shl, -1, 1, -2},
		{api.Shr, 8, 3, 1}, {api.Shr, -8, 3, -1}, {api.Shr, -1, 63, -1}, {api.Shr, least, 63, -1},
		{api.Shr, greatest, 62, 1}, {api.Shr, greatest, 63, 0}, {api.Shr, -2, 64, -2}, {api.Shr, -2, 65, -1},
		{api.Shr, -2, -63, -1}, {api.Shr, 4, -63, 2}, {api.Shr, least, -1, -1}, {api.Shr, -7, 1, -4},
		{api.Shr, 9, least, 9}, {api.Shr, 9, 1 << 40, 9},
		{api.Less, 1, 2, 1}, {api.Less, 2, 1, 0}, {api.Less, 1, 1, 0}, {api.Less, -1, 0, 1},
		{api.Less, least, greatest, 1}, {api.Less, greatest, least, 0},
		{api.Most, 1, 2, 1}, {api.Most, 2, 1, 0}, {api.Most, 1, 1, 1}, {api.Most, -1, 0, 1},
		{api.Most, least, greatest, 1}, {api.Most, greatest, least, 0},
		{api.Same, 1, 2, 0}, {api.Same, 2, 2, 1}, {api.Same, 1, 1 + 1<<32, 0}, {api.Same, least, least, 1},
		{api.Else, 1, 2, 1}, {api.Else, 2, 2, 0}, {api.Else, 1, 1 + 1<<32, 1}, {api.Else, least, least, 0},
	} {
		if n, ok := word.Arith(x.sign, x.a, x.b); n != x.n || !ok {
			t.Errorf("Arith(%d, %d, %d): %d, %v, not %d", x.sign, x.a, x.b, n, ok, x.n)
		}
	}
}

func TestP1_1ArithOfAllPairs(t *testing.T) {
	l := numbers()
	for _, sign := range signs {
		for _, a := range l {
			for _, b := range l {
				n, ok := word.Arith(sign, a, b)
				if m, can := reckoned(sign, a, b); n != m || ok != can {
					t.Fatalf("Arith(%d, %d, %d): %d, %v, not %d, %v", sign, a, b, n, ok, m, can)
				}
			}
		}
	}
}

func TestP1_1ShiftsGoRound(t *testing.T) {
	for _, a := range numbers() {
		for b := int64(0); b < 64; b++ {
			for _, sign := range []int{api.Shl, api.Shr} {
				n := must(t, sign, a, b)
				for _, round := range []int64{64, 128, -64, -128, 1 << 32, least, greatest - 63} {
					if m := must(t, sign, a, b+round); m != n {
						t.Fatalf("sign %d of %d by %d: %d, by %d: %d", sign, a, b, n, b+round, m)
					}
				}
			}
		}
	}
}

func TestP1_1NothingIsReckoned(t *testing.T) {
	for _, a := range numbers() {
		for _, sign := range []int{api.Div, api.Rem} {
			if n, ok := word.Arith(sign, a, 0); n != 0 || ok {
				t.Errorf("Arith(%d, %d, 0): %d, %v", sign, a, n, ok)
			}
		}
		for _, sign := range strangers {
			for _, b := range []int64{0, 1, -1, a} {
				if n, ok := word.Arith(sign, a, b); n != 0 || ok {
					t.Errorf("Arith(%d, %d, %d): %d, %v", sign, a, b, n, ok)
				}
			}
		}
	}
}

func TestP1_2Tells(t *testing.T) {
	for _, sign := range signs {
		want := api.TInt
		if sign >= api.Less {
			want = api.TBool
		}
		if word.Tells(sign) != want {
			t.Errorf("Tells(%d): %d", sign, word.Tells(sign))
		}
	}
	for _, sign := range strangers {
		if word.Tells(sign) != api.TNone {
			t.Errorf("Tells(%d): %d", sign, word.Tells(sign))
		}
	}
}

// What is a truth by its type is 0 or 1.
func TestP1_2TruthsAreTruths(t *testing.T) {
	for _, sign := range signs {
		if word.Tells(sign) != api.TBool {
			continue
		}
		for _, a := range numbers() {
			if n := must(t, sign, a, a+1); n != 0 && n != 1 {
				t.Errorf("sign %d of %d: %d", sign, a, n)
			}
		}
	}
}

func TestP1_3Chain(t *testing.T) {
	for i, x := range []struct {
		signs []int
		l     []int64
		n     int64
		at    int
	}{
		{nil, nil, 0, -1},
		{[]int{}, []int64{}, 0, -1},
		{nil, []int64{7}, 7, -1},
		{nil, []int64{least, 2, 3}, least, -1},
		{[]int{api.Add}, nil, 0, -1},
		{[]int{99, api.Div}, nil, 0, -1},
		{[]int{api.Add}, []int64{5}, 5, -1},
		{[]int{-1}, []int64{5}, 5, -1},
		{[]int{api.Add}, []int64{5, 6}, 11, -1},
		{[]int{api.Sub, api.Sub}, []int64{10, 3, 2}, 5, -1},
		{[]int{api.Add, api.Mul}, []int64{1, 2, 5}, 15, -1},
		{[]int{api.Mul, api.Add}, []int64{1, 2, 5}, 7, -1},
		{[]int{api.Add}, []int64{1, 2, 5, 0, 9}, 3, -1},
		{[]int{api.Add, api.Add, 14, -1}, []int64{1, 2, 3}, 6, -1},
		{[]int{api.Add, api.Div, api.Rem}, []int64{1, 2, 3}, 1, -1},
		{[]int{api.Add, api.Mul, api.Div, api.Add}, []int64{1, 2, 5, 0, 9}, 15, 2},
		{[]int{api.Div}, []int64{8, 0}, 8, 0},
		{[]int{api.Rem}, []int64{-8, 0}, -8, 0},
		{[]int{14}, []int64{8, 1}, 8, 0},
		{[]int{-1, api.Div}, []int64{8, 0, 0}, 8, 0},
		{[]int{api.Add, 14, api.Div, api.Add}, []int64{8, 1, 0, 0, 5}, 9, 1},
		{[]int{api.Sub, api.Add, api.Rem}, []int64{3, 3, 0, 0}, 0, 2},
		{[]int{api.Div, api.Add, api.Div}, []int64{0, 5, 0, 2}, 0, -1},
		{[]int{api.Less, api.Add}, []int64{1, 2, 10}, 11, -1},
		{[]int{api.Add, api.Shl, api.Shr}, []int64{greatest, 1, 64, -1}, -1, -1},
	} {
		if n, at := word.Chain(x.signs, x.l); n != x.n || at != x.at {
			t.Errorf("%d: Chain(%v, %v): %d, %d, not %d, %d", i, x.signs, x.l, n, at, x.n, x.at)
		}
	}
}

// All chains of two signs, and a third sign beyond the numbers.
func TestP1_3ChainIsArithInOrder(t *testing.T) {
	all := append(slices.Clone(signs), -1, 14)
	l := []int64{0, 1, -1, 2, -7, 65, least, greatest}
	for _, first := range all {
		for _, second := range all {
			for _, a := range l {
				for _, b := range l {
					c := a ^ b>>1
					n, at := word.Chain([]int{first, second, 14}, []int64{a, b, c})
					want, place := a, 0
					if m, ok := word.Arith(first, a, b); ok {
						want, place = m, 1
						if m, ok = word.Arith(second, m, c); ok {
							want, place = m, -1
						}
					}
					if n != want || at != place {
						t.Fatalf("Chain of %d, %d of %d, %d, %d: %d, %d, not %d, %d", first, second, a, b, c, n, at, want, place)
					}
				}
			}
		}
	}
}

func TestP1_3ChainLeavesWhatItIsHanded(t *testing.T) {
	order := []int{api.Add, api.Mul, api.Div, api.Add, 77, 78}
	l := []int64{1, 2, 5, 3, 9, 77, 78}
	order2, l2 := slices.Clone(order), slices.Clone(l)
	for range 2 {
		if n, at := word.Chain(order[:4], l[:5]); n != 14 || at != -1 {
			t.Error(n, at)
		}
	}
	if !slices.Equal(order, order2) || !slices.Equal(l, l2) {
		t.Error("changed:", order, l)
	}
}

func TestP1_4Rests(t *testing.T) {
	l := numbers()
	for _, a := range l {
		for _, b := range l {
			q, can := word.Arith(api.Div, a, b)
			r, too := word.Arith(api.Rem, a, b)
			if can != (b != 0) || too != can {
				t.Fatalf("%d by %d: %v, %v", a, b, can, too)
			}
			if can && must(t, api.Add, must(t, api.Mul, b, q), r) != a {
				t.Fatalf("%d by %d: %d, and %d", a, b, q, r)
			}
		}
	}
}

func TestP1_5Order(t *testing.T) {
	l := numbers()
	for _, a := range l {
		for _, b := range l {
			less, same, more := must(t, api.Less, a, b), must(t, api.Same, a, b), must(t, api.Less, b, a)
			if less+same+more != 1 || less < 0 || same < 0 || more < 0 {
				t.Fatalf("%d, %d: less %d, same %d, turned about %d", a, b, less, same, more)
			}
			if must(t, api.Most, a, b) != less|same {
				t.Fatalf("%d, %d: Most is not Less or Same", a, b)
			}
			if must(t, api.Else, a, b) != 1-same {
				t.Fatalf("%d, %d: Else is not not Same", a, b)
			}
		}
	}
}

func TestP1_6Rings(t *testing.T) {
	l := numbers()
	for i, a := range l {
		for j, b := range l {
			sum := must(t, api.Add, a, b)
			if sum != must(t, api.Add, b, a) || must(t, api.Mul, a, b) != must(t, api.Mul, b, a) {
				t.Fatalf("%d, %d: it hangs on the order", a, b)
			}
			if must(t, api.Sub, sum, b) != a || must(t, api.Add, must(t, api.Sub, a, b), b) != a {
				t.Fatalf("%d, %d: Sub does not undo Add", a, b)
			}
			for _, c := range []int64{0, 1, -1, 3, least, greatest, l[(i*31+j*17)%len(l)]} {
				both := must(t, api.Add, must(t, api.Mul, a, c), must(t, api.Mul, b, c))
				if must(t, api.Mul, sum, c) != both || must(t, api.Mul, c, sum) != both {
					t.Fatalf("%d times the sum of %d and %d is not the sum of both", c, a, b)
				}
				if must(t, api.Add, sum, c) != must(t, api.Add, a, must(t, api.Add, b, c)) {
					t.Fatalf("Add of %d, %d, %d hangs on the order", a, b, c)
				}
				if must(t, api.Mul, must(t, api.Mul, a, b), c) != must(t, api.Mul, a, must(t, api.Mul, b, c)) {
					t.Fatalf("Mul of %d, %d, %d hangs on the order", a, b, c)
				}
			}
		}
	}
}

func TestExamples(t *testing.T) {
	for _, x := range []struct {
		sign    int
		a, b, n int64
	}{{api.Div, -7, 2, -3}, {api.Rem, -7, 2, -1}, {api.Shl, 1, 65, 2}, {api.Mul, 1 << 62, 2, least}} {
		if n := must(t, x.sign, x.a, x.b); n != x.n {
			t.Error(x, n)
		}
	}
}
