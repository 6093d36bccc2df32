package well_test

import (
	"slices"

	"hallmark/api"
	"hallmark/cfg"
	"hallmark/code"
	"hallmark/kind"
)

// What the tests hold well against: the chapter's words, written down a second time, by other means.

// to is a list, written shortly.
func to(n ...int) []int { return n }

// inside tells whether a number is one of so many, from 0 on.
func inside(n, many int) bool { return n >= 0 && n < many }

// home is where a value is made: its block, and its place there, parameters ahead of steps.
type home struct{ block, at int }

// homes are the homes of all values, in order.
func homes(f api.Func) []home {
	var l []home
	for block, b := range f.Blocks {
		for at := range len(b.Params) + len(b.Ops) {
			l = append(l, home{block, at})
		}
	}
	return l
}

// metFrom tells of each block whether it is met from block 0 on, without passing the one that is left out.
func metFrom(f api.Func, out int) []bool {
	met := make([]bool, len(f.Blocks))
	var walk func(block int)
	walk = func(block int) {
		if !inside(block, len(met)) || block == out || met[block] {
			return
		}
		met[block] = true
		for _, n := range cfg.Next(f.Blocks[block]) {
			walk(n)
		}
	}
	walk(0)
	return met
}

// overs tell of each two blocks whether the one is over the other: both are met, and the other one is not met once the one is left out.
func overs(f api.Func) [][]bool {
	met := metFrom(f, -1)
	over := make([][]bool, len(met))
	for a := range over {
		over[a] = make([]bool, len(met))
		left := metFrom(f, a)
		for b := range left {
			over[a][b] = met[a] && met[b] && !left[b]
		}
	}
	return over
}

// sight is what is seen in a function, in the chapter's words.
type sight struct {
	f     api.Func
	homes []home
	over  [][]bool
}

func sightOf(f api.Func) sight { return sight{f, homes(f), overs(f)} }

func (s sight) sees(block, at, value int) bool {
	if !inside(block, len(s.f.Blocks)) || !inside(at, len(s.f.Blocks[block].Ops)+1) || !inside(value, len(s.homes)) {
		return false
	}
	h := s.homes[value]
	if h.block != block {
		return s.over[h.block][block]
	}
	steps := h.at - len(s.f.Blocks[block].Params)
	return steps < 0 || steps < at
}

// types are Types in the chapter's words.
func types(p *api.Prog, f api.Func) []int {
	var l []int
	number := map[home]int{}
	for value, h := range homes(f) {
		number[h] = value
		l = append(l, api.TNone)
		if b := f.Blocks[h.block]; h.at < len(b.Params) {
			l[value] = b.Params[h.at]
		}
	}
	order := cfg.Order(f)
	for block := range f.Blocks {
		if !slices.Contains(order, block) {
			order = append(order, block)
		}
	}
	for _, block := range order {
		b := f.Blocks[block]
		for at, o := range b.Ops {
			if t, can := kind.Result(p, o, l); can {
				l[number[home{block, len(b.Params) + at}]] = t
			}
		}
	}
	return l
}

// The rules of P9.2, by their names; each that does not hold of a program is counted.
var rules = []string{
	"sig's parameters", "sig's ret", "fields", "many methods", "method is there", "method's face", "method's parameters", "method's ret",
	"a function", "main's parameters", "main's ret", "ret", "a block", "parameters",
	"met", "not to block 0", "to a block", "many values", "values' types",
	"can be", "step sees", "end sees", "branch's type", "stop's type", "ret's type", "ret of nothing",
}

// broken are the rules that p, which has bytes, does not keep to.
type broken struct {
	p     *api.Prog
	rules map[string]int
}

func (x broken) unless(holds bool, rule string) {
	if !slices.Contains(rules, rule) {
		panic(rule)
	}
	if !holds {
		x.rules[rule]++
	}
}

func (x broken) allKnown(types []int, rule string) {
	for _, t := range types {
		x.unless(t >= 0 && t < 6+len(x.p.Classes), rule)
	}
}

// brokenBy looks at all rules, each as far as it can be asked for.
func brokenBy(p *api.Prog) map[string]int {
	x := broken{p, map[string]int{}}
	for _, s := range p.Sigs {
		x.allKnown(s.Params, "sig's parameters")
		x.allKnown(slices.DeleteFunc(to(s.Ret), func(t int) bool { return t == -1 }), "sig's ret")
	}
	for _, c := range p.Classes {
		x.allKnown(c.Fields, "fields")
		x.methods(c)
	}
	x.unless(len(p.Funcs) > 0, "a function")
	for n, f := range p.Funcs {
		if n == 0 {
			x.unless(f.Ret == 0, "main's ret")
		}
		x.allKnown(slices.DeleteFunc(to(f.Ret), func(t int) bool { return t == -1 }), "ret")
		x.unless(len(f.Blocks) > 0, "a block")
		met := metFrom(f, -1)
		for block, b := range f.Blocks {
			x.allKnown(b.Params, "parameters")
			x.unless(met[block], "met")
			if n == 0 && block == 0 {
				x.unless(!slices.ContainsFunc(b.Params, func(t int) bool { return t != 0 }), "main's parameters")
			}
		}
		x.body(f)
	}
	return x.rules
}

func (x broken) methods(c api.Class) {
	x.unless(len(c.Methods) == len(x.p.Sigs), "many methods")
	for n, fun := range c.Methods {
		if fun < 0 || n >= len(x.p.Sigs) {
			continue
		}
		if !inside(fun, len(x.p.Funcs)) || len(x.p.Funcs[fun].Blocks) == 0 {
			x.unless(false, "method is there")
			continue
		}
		f, s := x.p.Funcs[fun], x.p.Sigs[n]
		params := f.Blocks[0].Params
		x.unless(f.Ret == s.Ret, "method's ret")
		x.unless(len(params) > 0 && params[0] == 5, "method's face")
		x.unless(slices.Equal(params[min(1, len(params)):], s.Params), "method's parameters")
	}
}

func (x broken) body(f api.Func) {
	s, l := sightOf(f), types(x.p, f)
	for block, b := range f.Blocks {
		for at, o := range b.Ops {
			_, can := kind.Result(x.p, o, l)
			x.unless(can, "can be")
			for _, value := range kind.Uses(o) {
				x.unless(s.sees(block, at, value), "step sees")
			}
		}
		end := func(value, t int, rule string) {
			sees := s.sees(block, len(b.Ops), value)
			x.unless(sees, "end sees")
			x.unless(!sees || l[value] == t, rule)
		}
		switch {
		case b.End.K == 1:
			end(b.End.A, 1, "branch's type")
		case b.End.K == 3:
			end(b.End.A, 0, "stop's type")
		case b.End.K == 2 && f.Ret == -1:
			x.unless(b.End.A == 0, "ret of nothing")
		case b.End.K == 2:
			end(b.End.A, f.Ret, "ret's type")
		}
		for _, t := range cfg.Targets(b.End) {
			x.unless(t.To != 0, "not to block 0")
			x.unless(inside(t.To, len(f.Blocks)), "to a block")
			if !inside(t.To, len(f.Blocks)) {
				continue
			}
			params := f.Blocks[t.To].Params
			x.unless(len(t.L) == len(params), "many values")
			for at, value := range t.L[:min(len(t.L), len(params))] {
				end(value, params[at], "values' types")
			}
		}
	}
}

// check is Check in the chapter's words, and which rules were broken.
func check(p *api.Prog) (api.Errno, map[string]int) {
	if _, err := code.Encode(p); err != api.OK {
		return err, nil
	}
	for _, f := range p.Funcs {
		if len(homes(f)) > 700 {
			return api.ErrLong, nil
		}
	}
	if x := brokenBy(p); len(x) > 0 {
		return api.ErrForm, x
	}
	return api.OK, nil
}
