package kind

import (
	"slices"

	"hallmark/api"
	"hallmark/word"
)

// Type tells whether t is a type of a value in p.
func Type(p *api.Prog, t int) bool {
	if t < api.TPtr {
		return t >= api.TInt
	}
	return p != nil && t-api.TPtr < len(p.Classes)
}

// Result is the type of what o comes to, if o can be.
func Result(p *api.Prog, o api.Op, types []int) (int, bool) {
	if p == nil {
		p = new(api.Prog)
	}
	if !all(o, len(types)) {
		return api.TNone, false
	}
	comes, can := row(p, o, types)
	if !can {
		return api.TNone, false
	}
	return comes, true
}

// all tells whether there are all values that o is of: the rows ask for their types without looking again.
func all(o api.Op, many int) bool {
	for place := range places(&o) {
		if !among(int64(*place), many) {
			return false
		}
	}
	return true
}

// row is what the chapter's table says of steps that hang on nothing but the types of their values; of others it asks on.
func row(p *api.Prog, o api.Op, types []int) (int, bool) {
	switch o.K {
	case api.OpInt:
		return api.TInt, true
	case api.OpBool:
		return api.TBool, o.N == 0 || o.N == 1
	case api.OpText:
		return api.TText, len(o.S) <= api.MaxConst
	case api.OpArith:
		comes, can := sign(o.N)
		return comes, can && are(types, api.TInt, o.A, o.B)
	case api.OpNot:
		return api.TBool, are(types, api.TBool, o.A)
	case api.OpCat:
		return api.TText, are(types, api.TText, o.A, o.B)
	case api.OpLong:
		return api.TInt, are(types, api.TText, o.A)
	case api.OpByte:
		return api.TInt, are(types, api.TText, o.A) && are(types, api.TInt, o.B)
	case api.OpAlike:
		return api.TBool, are(types, api.TText, o.A, o.B)
	case api.OpMake:
		return api.TSlice, 0 <= o.N && o.N <= api.MaxMake
	case api.OpRoom:
		return api.TSlice, are(types, api.TInt, o.A)
	case api.OpSize:
		return api.TInt, are(types, api.TSlice, o.A)
	case api.OpAt:
		return api.TInt, are(types, api.TSlice, o.A) && are(types, api.TInt, o.B)
	case api.OpPut:
		return api.TNone, are(types, api.TSlice, o.A) && are(types, api.TInt, o.B, o.C)
	case api.OpTable:
		return api.TTable, true
	case api.OpEnter:
		return api.TNone, are(types, api.TTable, o.A) && are(types, api.TInt, o.B, o.C)
	case api.OpLook, api.OpKey:
		return api.TInt, are(types, api.TTable, o.A) && are(types, api.TInt, o.B)
	case api.OpCount:
		return api.TInt, are(types, api.TTable, o.A)
	case api.OpTell:
		return api.TNone, are(types, api.TInt, o.A) || are(types, api.TText, o.A)
	}
	return declared(p, o, types)
}

// declared is what the table says of steps that hang on p's classes, functions or methods; false of kinds that are none.
func declared(p *api.Prog, o api.Op, types []int) (int, bool) {
	switch o.K {
	case api.OpNew:
		if among(o.N, len(p.Classes)) {
			return api.TPtr + int(o.N), match(types, o.L, p.Classes[o.N].Fields)
		}
	case api.OpGet:
		return field(p, types[o.A], o.N)
	case api.OpSet:
		t, there := field(p, types[o.A], o.N)
		return api.TNone, there && types[o.B] == t
	case api.OpFace:
		return api.TFace, pointer(p, types[o.A])
	case api.OpCall:
		if among(o.N, len(p.Funcs)) {
			return call(p.Funcs[o.N], o, types)
		}
	case api.OpAsk:
		if among(o.N, len(p.Sigs)) {
			s := p.Sigs[o.N]
			return s.Ret, types[o.A] == api.TFace && match(types, o.L, s.Params)
		}
	}
	return api.TNone, false
}

// call is what a call of f comes to: f's parameters are those of its block 0, so one without blocks can't be called.
func call(f api.Func, o api.Op, types []int) (int, bool) {
	if len(f.Blocks) == 0 {
		return api.TNone, false
	}
	return f.Ret, match(types, o.L, f.Blocks[0].Params)
}

// field is the type of the field n of what t points to, if there is one.
func field(p *api.Prog, t int, n int64) (int, bool) {
	if !pointer(p, t) {
		return api.TNone, false
	}
	l := p.Classes[t-api.TPtr].Fields
	if !among(n, len(l)) {
		return api.TNone, false
	}
	return l[n], true
}

// pointer tells whether t points to a class of p.
func pointer(p *api.Prog, t int) bool {
	return t >= api.TPtr && Type(p, t)
}

// sign is the type of what a sign comes to; a number that an int can't hold is none, whatever is left of it there.
func sign(n int64) (int, bool) {
	s := int(n)
	return word.Tells(s), int64(s) == n && word.Can(s)
}

// among tells whether n is one of so many numbers, from 0 on.
func among(n int64, many int) bool {
	return 0 <= n && n < int64(many)
}

// are tells whether all these values are of the type t.
func are(types []int, t int, values ...int) bool {
	for _, value := range values {
		if types[value] != t {
			return false
		}
	}
	return true
}

// match tells whether the values are as many as there are wants, each of its type.
func match(types, values, wants []int) bool {
	return slices.EqualFunc(values, wants, func(value, want int) bool {
		return types[value] == want
	})
}
