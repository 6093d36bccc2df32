package well

import (
	"slices"

	"hallmark/api"
	"hallmark/cfg"
	"hallmark/kind"
)

// must gives up with an error, unless what is asked for holds.
func must(holds bool, err api.Errno) {
	if !holds {
		panic(err)
	}
}

// need gives up where a rule of form does not hold.
func need(holds bool) {
	must(holds, api.ErrForm)
}

// rules are those that a program that has bytes must keep to.
type rules struct{ p *api.Prog }

// hold asks for heads ahead of all that looks into other functions: from there on each has a block.
func (r rules) hold() {
	need(len(r.p.Funcs) > 0)
	for _, s := range r.p.Sigs {
		r.known(s.Params...)
		r.ret(s.Ret)
	}
	for _, f := range r.p.Funcs {
		r.head(f)
	}
	r.main(r.p.Funcs[0])
	for _, c := range r.p.Classes {
		r.class(c)
	}
	for _, f := range r.p.Funcs {
		body{rules: r, scope: scoped(f), types: Types(r.p, f)}.hold()
	}
}

// known asks that these are types of the program.
func (r rules) known(types ...int) {
	for _, t := range types {
		need(kind.Type(r.p, t))
	}
}

// ret asks that a function, or a method, can tell this.
func (r rules) ret(t int) {
	if t != api.TNone {
		r.known(t)
	}
}

// head asks for what others see of a function, and for the types of all blocks' parameters.
func (r rules) head(f api.Func) {
	r.ret(f.Ret)
	need(len(f.Blocks) > 0)
	for _, b := range f.Blocks {
		r.known(b.Params...)
	}
}

// main asks for numbers alone: function 0 is run with them, and tells one.
func (r rules) main(f api.Func) {
	need(f.Ret == api.TInt)
	for _, t := range f.Blocks[0].Params {
		need(t == api.TInt)
	}
}

// class asks for the types of fields, and for a function, or none, for each method.
func (r rules) class(c api.Class) {
	r.known(c.Fields...)
	need(len(c.Methods) == len(r.p.Sigs))
	for n, method := range c.Methods {
		if method >= 0 {
			r.method(method, r.p.Sigs[n])
		}
	}
}

// method asks that a function is handed a face, and then what the method is handed, and tells what that tells.
func (r rules) method(fun int, s api.Sig) {
	need(fun < len(r.p.Funcs))
	f := r.p.Funcs[fun]
	need(f.Ret == s.Ret)
	need(slices.Equal(f.Blocks[0].Params, slices.Concat([]int{api.TFace}, s.Params)))
}

// body are the rules, of the blocks of one function.
type body struct {
	rules
	scope
	types []int
}

func (b body) hold() {
	for block, met := range cfg.Reached(b.f) {
		need(met)
		b.steps(block)
		b.end(block)
	}
}

func (b body) steps(block int) {
	for at, o := range b.f.Blocks[block].Ops {
		_, can := kind.Result(b.p, o, b.types)
		need(can)
		for _, value := range kind.Uses(o) {
			b.used(block, at, value)
		}
	}
}

func (b body) end(block int) {
	end := b.f.Blocks[block].End
	switch end.K {
	case api.EndBranch:
		b.ended(block, end.A, api.TBool)
	case api.EndStop:
		b.ended(block, end.A, api.TInt)
	case api.EndRet:
		if b.f.Ret != api.TNone {
			b.ended(block, end.A, b.f.Ret)
		} else {
			need(end.A == 0)
		}
	}
	for _, t := range cfg.Targets(end) {
		b.target(block, t)
	}
}

// target asks that a block goes to another one that can be gone to, with what that wants.
func (b body) target(block int, t api.Target) {
	need(0 < t.To && t.To < len(b.f.Blocks))
	params := b.f.Blocks[t.To].Params
	need(len(t.L) == len(params))
	for at, value := range t.L {
		b.ended(block, value, params[at])
	}
}

// ended asks that a block's end sees a value, of a type.
func (b body) ended(block, value, t int) {
	b.used(block, len(b.f.Blocks[block].Ops), value)
	need(b.types[value] == t)
}

// used asks that a step, or an end, sees a value that is something.
func (b body) used(block, at, value int) {
	need(b.sees(block, at, value))
	need(b.types[value] != api.TNone)
}
