package code

import (
	"hallmark/api"
	"hallmark/kind"
	"hallmark/wire"
)

// ends is how many kinds of ends there are.
const ends = api.EndStop + 1

// longest is how many bytes a number has at most (see wire).
const longest = 10

// Encode is p's bytes.
func Encode(p *api.Prog) ([]byte, api.Errno) {
	if p == nil {
		return nil, api.ErrArg
	}
	w := new(writer)
	// A walk lays into a program what the bytes have: it is handed a copy, so that p stays untouched.
	if err := through(w, Copy(p)); err != api.OK {
		return nil, err
	}
	if len(w.b) > api.MaxBytes {
		return nil, api.ErrLong
	}
	return w.b, api.OK
}

// Decode is the program whose bytes b is.
func Decode(b []byte) (*api.Prog, api.Errno) {
	if len(b) > api.MaxBytes {
		return nil, api.ErrLong
	}
	r, p := &reader{left: b}, new(api.Prog)
	if err := through(r, p); err != api.OK {
		return nil, err
	}
	if len(r.left) > 0 {
		return nil, api.ErrForm
	}
	return p, api.OK
}

// through walks through p, and tells what the walk was given up with.
func through(s side, p *api.Prog) (err api.Errno) {
	defer func() {
		if given := recover(); given != nil {
			err = given.(api.Errno)
		}
	}()
	walk{s}.prog(p)
	return api.OK
}

// side is what a walk is of: a writer writes what it is handed, a reader reads whatever that is, and both answer what the bytes have. What can't be written or read is given up by panic, with its error.
type side interface {
	number(n int64) int64
	text(s string) string
}

// writer has the bytes that were written.
type writer struct{ b []byte }

// number and text put what they are handed behind no bytes: wire would copy all of them each time.
func (w *writer) number(n int64) int64 {
	w.b = append(w.b, wire.Put(nil, n)...)
	return n
}

func (w *writer) text(s string) string {
	if len(s) > api.MaxConst {
		panic(api.ErrLong)
	}
	w.b = append(w.b, wire.PutText(nil, s)...)
	return s
}

// reader has the bytes that are left.
type reader struct{ left []byte }

func (r *reader) number(int64) int64 {
	shown := r.shown(longest)
	n, behind, err := wire.Take(shown)
	r.take(len(shown)-len(behind), err)
	return n
}

func (r *reader) text(string) string {
	shown := r.shown(longest + api.MaxConst)
	s, behind, err := wire.TakeText(shown, api.MaxConst)
	r.take(len(shown)-len(behind), err)
	return s
}

// shown is as much of what is left as the next number or text has at most: wire copies what is behind, and shall not copy all of it each time.
func (r *reader) shown(most int) []byte {
	return r.left[:min(most, len(r.left))]
}

// take goes on behind so many bytes, if they could be read.
func (r *reader) take(size int, err api.Errno) {
	if err != api.OK {
		panic(err)
	}
	r.left = r.left[size:]
}

// walk goes through a program in the order of its bytes, in one way for those who write and those who read: so both give up at the same place, with the same error.
type walk struct{ side }

func (w walk) prog(p *api.Prog) {
	p.Sigs = list(w, p.Sigs, api.MaxSigs, w.sig)
	p.Classes = list(w, p.Classes, api.MaxClasses, w.class)
	p.Funcs = list(w, p.Funcs, api.MaxFuncs, w.fun)
}

func (w walk) sig(s *api.Sig) {
	s.Params = list(w, s.Params, api.MaxArgs, w.whole)
	w.whole(&s.Ret)
}

func (w walk) class(c *api.Class) {
	c.Fields = list(w, c.Fields, api.MaxFields, w.whole)
	c.Methods = list(w, c.Methods, api.MaxSigs, w.whole)
}

func (w walk) fun(f *api.Func) {
	w.whole(&f.Ret)
	f.Blocks = list(w, f.Blocks, api.MaxBlocks, w.block)
}

func (w walk) block(b *api.Block) {
	b.Params = list(w, b.Params, api.MaxArgs, w.whole)
	b.Ops = list(w, b.Ops, api.MaxOps, w.op)
	w.end(&b.End)
}

func (w walk) op(o *api.Op) {
	o.K = w.below(o.K, api.Ops)
	for _, letter := range kind.Fields(o.K) {
		switch letter {
		case 'N':
			o.N = w.number(o.N)
		case 'S':
			o.S = w.text(o.S)
		case 'A':
			w.whole(&o.A)
		case 'B':
			w.whole(&o.B)
		case 'C':
			w.whole(&o.C)
		case 'L':
			o.L = list(w, o.L, api.MaxArgs, w.whole)
		case 'K':
			o.Stack = w.truth(o.Stack)
		}
	}
}

func (w walk) end(e *api.End) {
	e.K = w.below(e.K, ends)
	switch e.K {
	case api.EndJump:
		w.target(&e.To, &e.L)
	case api.EndBranch:
		w.whole(&e.A)
		w.target(&e.To, &e.L)
		w.target(&e.Else, &e.M)
	case api.EndRet, api.EndStop:
		w.whole(&e.A)
	}
}

// target is where an end goes, with which values.
func (w walk) target(to *int, l *[]int) {
	w.whole(to)
	*l = list(w, *l, api.MaxArgs, w.whole)
}

// whole is a number without bounds.
func (w walk) whole(n *int) {
	*n = int(w.number(int64(*n)))
}

// below is a number from 0 to less than bound.
func (w walk) below(n, bound int) int {
	is := w.number(int64(n))
	if is < 0 || is >= int64(bound) {
		panic(api.ErrForm)
	}
	return int(is)
}

// truth is 0 or 1.
func (w walk) truth(yes bool) bool {
	n := 0
	if yes {
		n = 1
	}
	return w.below(n, 2) == 1
}

// count is how many there are of what comes.
func (w walk) count(n, most int) int {
	is := w.number(int64(n))
	if is < 0 {
		panic(api.ErrForm)
	}
	if is > int64(most) {
		panic(api.ErrLong)
	}
	return int(is)
}

// list is how many things there are, and each: those of l, or, where l has no more, new ones.
func list[T any](w walk, l []T, most int, one func(*T)) []T {
	for at := range w.count(len(l), most) {
		if at == len(l) {
			var fresh T
			l = append(l, fresh)
		}
		one(&l[at])
	}
	return l
}
