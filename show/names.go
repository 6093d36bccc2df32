package show

import (
	"strings"

	"hallmark/api"
	"hallmark/kind"
	"hallmark/text"
)

// unknown stands where there is no name.
const unknown = "?"

// typeNames are the names of types, from TNone on.
var typeNames = [...]string{
	api.TNone - api.TNone:  "none",
	api.TInt - api.TNone:   "int",
	api.TBool - api.TNone:  "bool",
	api.TText - api.TNone:  "text",
	api.TSlice - api.TNone: "slice",
	api.TTable - api.TNone: "table",
	api.TFace - api.TNone:  "face",
}

var stepNames = [api.Ops]string{
	api.OpInt:   "int",
	api.OpBool:  "bool",
	api.OpText:  "text",
	api.OpArith: "arith",
	api.OpNot:   "not",
	api.OpCat:   "cat",
	api.OpLong:  "long",
	api.OpByte:  "byte",
	api.OpAlike: "alike",
	api.OpNew:   "new",
	api.OpGet:   "get",
	api.OpSet:   "set",
	api.OpMake:  "make",
	api.OpRoom:  "room",
	api.OpSize:  "size",
	api.OpAt:    "at",
	api.OpPut:   "put",
	api.OpTable: "table",
	api.OpEnter: "enter",
	api.OpLook:  "look",
	api.OpCount: "count",
	api.OpKey:   "key",
	api.OpFace:  "face",
	api.OpCall:  "call",
	api.OpAsk:   "ask",
	api.OpTell:  "tell",
}

var signNames = [...]string{
	api.Add:  "add",
	api.Sub:  "sub",
	api.Mul:  "mul",
	api.Div:  "div",
	api.Rem:  "rem",
	api.And:  "and",
	api.Or:   "or",
	api.Xor:  "xor",
	api.Shl:  "shl",
	api.Shr:  "shr",
	api.Less: "less",
	api.Most: "most",
	api.Same: "same",
	api.Else: "else",
}

// Type is a type's name; a pointer has its class's number.
func Type(t int) string {
	switch {
	case t < api.TNone:
		return unknown
	case t >= api.TPtr:
		return "*" + text.Digits(int64(t-api.TPtr))
	}
	return typeNames[t-api.TNone]
}

// Op is a step's name, and the fields that play a part in it.
func Op(o api.Op) string {
	var l strings.Builder
	l.WriteString(step(o.K))
	for _, letter := range kind.Fields(o.K) {
		if shown := field(o, letter); shown != "" {
			l.WriteString(" " + shown)
		}
	}
	return l.String()
}

func step(k int) string {
	if k < 0 || k >= api.Ops {
		return unknown
	}
	return stepNames[k]
}

// field is a field of o; the empty text, if there is nothing to show: Stack that is false.
func field(o api.Op, letter rune) string {
	switch letter {
	case 'N':
		return number(o)
	case 'S':
		return text.Quote(o.S)
	case 'A':
		return value(o.A)
	case 'B':
		return value(o.B)
	case 'C':
		return value(o.C)
	case 'L':
		return values(o.L)
	case 'K':
		if o.Stack {
			return "stack"
		}
	}
	return ""
}

// number is N: a sign has a name.
func number(o api.Op) string {
	if o.K == api.OpArith {
		return sign(o.N)
	}
	return text.Digits(o.N)
}

func sign(n int64) string {
	if n < 0 || n >= int64(len(signNames)) {
		return unknown
	}
	return signNames[n]
}
