package run_test

import (
	"strings"
	"testing"

	"hallmark/api"
)

// judged is a program that comes to 1, if its value is TRUE, else to 0: two steps and two ends more than the steps that it is of.
func judged(value int, ops ...api.Op) *api.Prog {
	zero := len(ops)
	ops = append(ops, num(0), num(1))
	return alone(fun(api.TInt, block(nil, branch(value, 1, to(zero+1), 1, to(zero)), ops...), block(to(0), ret(zero+2))))
}

// P11.3: numbers, truths and texts, each kind of step by hand.
func TestP11_3Values(t *testing.T) {
	played(t, []scene{
		{"int", one(ret(1), num(3), num(-4)), nil, api.Outcome{Code: -4, Steps: 3}},
		{"the least int", one(ret(0), num(least)), nil, api.Outcome{Code: least, Steps: 2}},
		{"bool 1", judged(0, bit(1)), nil, api.Outcome{Code: 1, Steps: 5}},
		{"bool 0", judged(0, bit(0)), nil, api.Outcome{Code: 0, Steps: 5}},
		{"not 1", judged(1, bit(1), not(0)), nil, api.Outcome{Code: 0, Steps: 6}},
		{"not 0", judged(1, bit(0), not(0)), nil, api.Outcome{Code: 1, Steps: 6}},
		{"not not 1", judged(2, bit(1), not(0), not(1)), nil, api.Outcome{Code: 1, Steps: 7}},
		{"not of less", judged(2, num(1), arith(api.Less, 0, 0), not(1)), nil, api.Outcome{Code: 1, Steps: 7}},
		{"long", one(ret(1), str("abc"), long(0)), nil, api.Outcome{Code: 3, Steps: 3}},
		{"long of nothing", one(ret(1), str(""), long(0)), nil, api.Outcome{Steps: 3}},
		{"long is of bytes", one(ret(1), str("é\x00"), long(0)), nil, api.Outcome{Code: 3, Steps: 3}},
		{"cat", one(ret(4), str("ab"), str("cde"), cat(0, 1), tell(2), long(2)), nil, api.Outcome{Code: 5, Trace: texts(`"abcde"`), Steps: 6}},
		{"cat turned about", one(ret(3), str("ab"), str("cde"), cat(1, 0), long(2), tell(2)), nil, api.Outcome{Code: 5, Trace: texts(`"cdeab"`), Steps: 6}},
		{"byte 0", one(ret(2), str("\xffab"), num(0), char(0, 1)), nil, api.Outcome{Code: 255, Steps: 4}},
		{"the last byte", one(ret(2), str("ab\x00"), num(2), char(0, 1)), nil, api.Outcome{Steps: 4}},
		{"byte 1", one(ret(2), str("ab\x00"), num(1), char(0, 1)), nil, api.Outcome{Code: 98, Steps: 4}},
		{"alike", judged(2, str("ab"), str("ab"), alike(0, 1)), nil, api.Outcome{Code: 1, Steps: 7}},
		{"not alike", judged(2, str("ab"), str("aB"), alike(0, 1)), nil, api.Outcome{Steps: 7}},
		{"a beginning is not alike", judged(2, str("ab"), str("a"), alike(0, 1)), nil, api.Outcome{Steps: 7}},
		{"nothing and nothing are alike", judged(2, str(""), str(""), alike(0, 1)), nil, api.Outcome{Code: 1, Steps: 7}},
		{"alike, joined", judged(4, str("a"), str("b"), str("ab"), cat(0, 1), alike(2, 3)), nil, api.Outcome{Code: 1, Steps: 9}},
	})
}

// P11.3: numbers are those of word: all signs, of numbers at the edges.
func TestP11_3Arith(t *testing.T) {
	edges := numbers(0, 1, -1, 2, -2, 3, 7, -7, 63, 64, 65, -63, -64, 1<<32, -1<<32, 1<<62, greatest, greatest-1, least, least+1)
	for sign := range 14 {
		for _, a := range edges {
			for _, b := range edges {
				want := api.Outcome{Steps: 2}
				p := alone(fun(api.TInt, block(to(0, 0), ret(2), arith(sign, 0, 1))))
				if sign >= api.Less {
					p = alone(fun(api.TInt, block(to(0, 0), branch(2, 1, to(4), 1, to(3)), arith(sign, 0, 1), num(0), num(1)), block(to(0), ret(5))))
					want.Steps = 5
				}
				if b == 0 && (sign == api.Div || sign == api.Rem) {
					want.End, want.Code, want.Steps = api.Failed, api.FailDiv, 1
				} else {
					want.Code = reckoned(sign, a, b)
				}
				comes(t, "a sign", p, numbers(a, b), 0, 10, want)
			}
		}
	}
	of := func(sign int, a, b, want int64) scene {
		return scene{"by hand", alone(fun(api.TInt, block(to(0, 0), ret(2), arith(sign, 0, 1)))), numbers(a, b), api.Outcome{Code: want, Steps: 2}}
	}
	played(t, []scene{
		of(api.Add, greatest, 1, least), of(api.Sub, least, 1, greatest), of(api.Mul, 1<<62, 2, least), of(api.Mul, 1<<62, 4, 0),
		of(api.Div, -7, 2, -3), of(api.Rem, -7, 2, -1), of(api.Div, 7, -2, -3), of(api.Rem, 7, -2, 1), of(api.Div, 6, 3, 2),
		of(api.Div, least, -1, least), of(api.Rem, least, -1, 0), of(api.Div, 0, 5, 0),
		of(api.And, 12, 10, 8), of(api.Or, 12, 10, 14), of(api.Xor, 12, 10, 6), of(api.And, -1, 5, 5),
		of(api.Shl, 1, 64, 1), of(api.Shl, 1, 65, 2), of(api.Shl, 1, -1, least), of(api.Shl, 1, 63, least), of(api.Shl, 3, -64, 3), of(api.Shl, 1, 1<<32, 1),
		of(api.Shr, -8, 1, -4), of(api.Shr, -8, 65, -4), of(api.Shr, -8, -1, -1), of(api.Shr, 8, 64, 8), of(api.Shr, least, 63, -1), of(api.Shr, 8, 3, 1),
	})
}

// doubled are steps that make a text of 2^n times s: value n is it.
func doubled(s string, n int) []api.Op {
	l := []api.Op{str(s)}
	for at := range n {
		l = append(l, cat(at, at))
	}
	return l
}

// failed is a scene that fails with a code, once so many steps are paid; what stands behind is not told.
func failed(name string, code int64, steps int, ops ...api.Op) scene {
	ops = append(ops, num(77), tell(len(ops)))
	return scene{name, one(ret(len(ops)-2), ops...), nil, api.Outcome{End: api.Failed, Code: code, Steps: steps}}
}

// behind are steps, and others behind them.
func behind(first []api.Op, more ...api.Op) []api.Op {
	return append(append([]api.Op{}, first...), more...)
}

// P11.3: what fails ends the run with its code, and nothing behind it is done.
func TestP11_3Codes(t *testing.T) {
	full := doubled(strings.Repeat("x", 64), 6)
	l := []scene{
		failed("0 by 0", api.FailDiv, 2, num(0), arith(api.Div, 0, 0)),
		failed("the rest of 0 by 0", api.FailDiv, 2, num(0), arith(api.Rem, 0, 0)),
		failed("the least number by 0", api.FailDiv, 3, num(least), num(0), arith(api.Div, 0, 1)),
		failed("the rest by 0", api.FailDiv, 3, num(5), num(0), arith(api.Rem, 0, 1)),
		failed("a byte of nothing", api.FailAt, 3, str(""), num(0), char(0, 1)),
		failed("a byte too long", api.FailText, 9, behind(full, str("y"), cat(6, 7))...),
		failed("a byte too long, turned about", api.FailText, 9, behind(full, str("y"), cat(7, 6))...),
		failed("twice too long", api.FailText, 8, behind(full, cat(6, 6))...),
		{"just long enough", one(ret(9), behind(full, str(""), cat(6, 7), long(8))...), nil, api.Outcome{Code: 4096, Steps: 11}},
		{"just long enough, turned about", one(ret(9), behind(full, str(""), cat(7, 6), long(8))...), nil, api.Outcome{Code: 4096, Steps: 11}},
		{"the last byte", one(ret(8), behind(full, num(4095), char(6, 7))...), nil, api.Outcome{Code: 'x', Steps: 10}},
		failed("behind the last byte", api.FailAt, 9, behind(full, num(4096), char(6, 7))...),
	}
	for _, i := range numbers(-1, 3, 4, least, greatest, 1<<32, -1<<32) {
		l = append(l, failed("a byte that is not there", api.FailAt, 3, str("abc"), num(i), char(0, 1)))
	}
	for _, n := range numbers(-1, 1025, least, greatest, 1<<32, -1<<32) {
		// Where there is no room, too: all of these are played with none.
		l = append(l, failed("no such size", api.FailSize, 2, num(n), space(0)))
	}
	played(t, l)
}

// P11.3: tell lays a number into the trace as its digits, a text quoted, in the order in which they are told.
func TestP11_3Tell(t *testing.T) {
	var all strings.Builder
	for b := range 256 {
		all.WriteByte(byte(b))
	}
	for _, x := range []struct {
		o    api.Op
		want string
	}{
		{num(0), "0"}, {num(7), "7"}, {num(-7), "-7"}, {num(least), "-9223372036854775808"}, {num(greatest), "9223372036854775807"},
		{str(""), `""`}, {str("0"), `"0"`}, {str("-7"), `"-7"`}, {str("a b"), `"a b"`},
		{str("a\"\n"), `"a\"\0a"`}, {str(`\`), `"\\"`}, {str(`\"\`), `"\\\"\\"`}, {str("\x00\x7f\xff\x1f"), `"\00\7f\ff\1f"`}, {str("é"), `"\c3\a9"`}, {str(" ~"), `" ~"`},
		{str(all.String()[:4]), `"\00\01\02\03"`},
	} {
		played(t, []scene{
			{"tell", one(ret(1), x.o, num(3), tell(0)), nil, api.Outcome{Code: 3, Trace: texts(x.want), Steps: 4}},
			{"tell twice", one(ret(1), x.o, num(3), tell(0), tell(1), tell(0)), nil, api.Outcome{Code: 3, Trace: texts(x.want, "3", x.want), Steps: 6}},
		})
	}
	for from := 0; from < 256; from += 64 {
		s := all.String()[from : from+64]
		played(t, []scene{{"all bytes", one(ret(1), str(s), num(0), tell(0)), nil, api.Outcome{Trace: texts(told(mark{s: s, text: true})), Steps: 4}}})
	}
	long := strings.Repeat("\x00", 4096)
	comes(t, "a long text", one(ret(8), append(doubled(long[:64], 6), tell(6), num(1))...), nil, 0, plenty, api.Outcome{Code: 1, Trace: texts(`"` + strings.Repeat(`\00`, 4096) + `"`), Steps: 10})
	// What is told may be a parameter, of a block or a function, a field, or what a call comes to.
	p := &api.Prog{Classes: []api.Class{{Fields: to(api.TText, api.TInt)}}, Funcs: []api.Func{
		fun(api.TInt, block(nil, jump(1, 0, 1), str(""), num(0)), block(to(api.TText, api.TInt), ret(3), object(0, 2, 3), get(4, 0), get(4, 1), tell(5), tell(6), call(1, 2, 3), tell(9))),
		fun(api.TText, block(to(api.TText, api.TInt), ret(0), tell(0), tell(1))),
	}}
	played(t, []scene{{"told from anywhere", p, nil, api.Outcome{Trace: texts(`""`, "0", `""`, "0", `""`), Used: 24, Makes: 1, Steps: 3 + 6 + 3 + 2}}})
}
