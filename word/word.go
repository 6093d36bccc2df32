// Package word is layer 1: numbers of 64 bits that wrap: see DOC.md and doc/01-word.md.
package word

import "hallmark/api"

// Arith reckons: the sign of a and b; false of no sign, and of a division by 0.
func Arith(sign int, a, b int64) (int64, bool) {
	switch sign {
	case api.Add:
		return a + b, true
	case api.Sub:
		return a - b, true
	case api.Mul:
		return a * b, true
	case api.Div, api.Rem:
		return divide(sign, a, b)
	case api.And:
		return a & b, true
	case api.Or:
		return a | b, true
	case api.Xor:
		return a ^ b, true
	case api.Shl:
		return a << places(b), true
	case api.Shr:
		return a >> places(b), true
	case api.Less:
		return truth(a < b), true
	case api.Most:
		return truth(a <= b), true
	case api.Same:
		return truth(a == b), true
	case api.Else:
		return truth(a != b), true
	}
	return 0, false
}

// divide stands apart because 0 must be held off ahead of Go's own division, which would panic; the least number by -1 wraps there by itself.
func divide(sign int, a, b int64) (int64, bool) {
	if b == 0 {
		return 0, false
	}
	if sign == api.Div {
		return a / b, true
	}
	return a % b, true
}

// places masks a shift: Go's own shift panics below 0, and does not go round at 64.
func places(b int64) uint64 {
	return uint64(b) & 63
}

func truth(is bool) int64 {
	if is {
		return 1
	}
	return 0
}

// Tells is the type of what a sign comes to.
func Tells(sign int) int {
	switch sign {
	case api.Add, api.Sub, api.Mul, api.Div, api.Rem, api.And, api.Or, api.Xor, api.Shl, api.Shr:
		return api.TInt
	case api.Less, api.Most, api.Same, api.Else:
		return api.TBool
	}
	return api.TNone
}

// Can tells whether there is such a sign: just those tell anything, so that the signs are listed once.
func Can(sign int) bool {
	return Tells(sign) != api.TNone
}

// Chain reckons on and on, from the first number; signs that have no number left play no part, even such as are none.
func Chain(signs []int, l []int64) (int64, int) {
	if len(l) == 0 {
		return 0, -1
	}
	last := l[0]
	for at, b := range l[1:] {
		if at == len(signs) {
			break
		}
		next, ok := Arith(signs[at], last, b)
		if !ok {
			return last, at
		}
		last = next
	}
	return last, -1
}
