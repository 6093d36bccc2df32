package calls_test

import (
	"maps"
	"slices"

	"hallmark/api"
)

// The model: the chapter's words, one by one, for well made programs; sets are maps.

type set map[int]bool

func (s set) rising() []int { return slices.Sorted(maps.Keys(s)) }

// modelSites are P12.1's Sites.
func modelSites(p *api.Prog, fun int) []api.Site {
	var l []api.Site
	for n, f := range p.Funcs {
		for i, b := range f.Blocks {
			for j, o := range b.Ops {
				if n == fun && (o.K == api.OpCall || o.K == api.OpAsk) {
					l = append(l, api.Site{Fun: n, Block: i, At: j})
				}
			}
		}
	}
	return l
}

// modelMay is P12.1's May.
func modelMay(p *api.Prog, o api.Op) set {
	s := set{}
	for n := range p.Funcs {
		if o.K == api.OpCall && o.N == int64(n) {
			s[n] = true
		}
		for _, c := range p.Classes {
			for m, own := range c.Methods {
				if o.K == api.OpAsk && o.N == int64(m) && own == n {
					s[n] = true
				}
			}
		}
	}
	return s
}

// modelCallees is P12.1's Callees.
func modelCallees(p *api.Prog) []set {
	l := make([]set, len(p.Funcs))
	for n := range l {
		l[n] = set{}
		for _, site := range modelSites(p, n) {
			maps.Copy(l[n], modelMay(p, p.Funcs[n].Blocks[site.Block].Ops[site.At]))
		}
	}
	return l
}

// met are the functions that one meets: those that it calls, and those that one of them meets.
func met(callees []set, fun int) set {
	s := maps.Clone(callees[fun])
	for range callees {
		for _, n := range s.rising() {
			maps.Copy(s, callees[n])
		}
	}
	return s
}

// modelled is all that is told of a program.
func modelled(p *api.Prog) answers {
	var a answers
	for n := -1; n <= len(p.Funcs); n++ {
		a.sites = append(a.sites, modelSites(p, n))
	}
	for _, o := range some(p) {
		a.may = append(a.may, modelMay(p, o).rising())
	}
	callees := modelCallees(p)
	meets := make([]set, len(callees))
	for n := range callees {
		a.callees = append(a.callees, callees[n].rising())
		meets[n] = met(callees, n)
	}
	together := func(a, b int) bool { return meets[a][b] && meets[b][a] }
	for n := range callees {
		least := -1
		for other := len(callees) - 1; other >= 0; other-- {
			if together(n, other) {
				least = other
			}
		}
		a.groups = append(a.groups, least)
	}
	for range callees {
		least := -1
		for n := len(callees) - 1; n >= 0; n-- {
			can := !slices.Contains(a.upward, n)
			for callee := range callees[n] {
				can = can && (slices.Contains(a.upward, callee) || together(n, callee))
			}
			if can {
				least = n
			}
		}
		a.upward = append(a.upward, least)
	}
	a.makes = modelMakes(p, meets[0])
	return a
}

// modelMakes is P12.3.
func modelMakes(p *api.Prog, meets set) []int {
	s := set{}
	for n, f := range p.Funcs {
		for _, b := range f.Blocks {
			for _, o := range b.Ops {
				if o.K == api.OpNew && (n == 0 || meets[n]) {
					s[int(o.N)] = true
				}
			}
		}
	}
	return s.rising()
}
