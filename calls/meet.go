package calls

import "hallmark/api"

// may are the functions that a step may run, in any order, the same one as often as classes have it.
func may(p *api.Prog, o api.Op) []int {
	var funs []int
	switch {
	case o.K == api.OpCall && 0 <= o.N && o.N < int64(len(p.Funcs)):
		funs = append(funs, int(o.N))
	case o.K == api.OpAsk && 0 <= o.N && o.N < int64(len(p.Sigs)):
		for _, c := range p.Classes {
			if method := c.Methods[o.N]; method >= 0 {
				funs = append(funs, method)
			}
		}
	}
	return funs
}

// callees are, for each function, those that its steps may run, rising, each once.
func callees(p *api.Prog) [][]int {
	all := make([][]int, len(p.Funcs))
	for fun := range p.Funcs {
		for _, o := range steps(p, fun) {
			all[fun] = append(all[fun], may(p, o)...)
		}
		all[fun] = rising(all[fun])
	}
	return all
}

// meets tells, for each function, which ones it meets.
func meets(callees [][]int) [][]bool {
	met := make([][]bool, len(callees))
	for fun, l := range callees {
		met[fun] = make([]bool, len(callees))
		for _, callee := range l {
			met[fun][callee] = true
		}
	}
	// By ways past the first functions alone, of which there is one more each time.
	for past := range met {
		for fun := range met {
			for last := range met {
				met[fun][last] = met[fun][last] || met[fun][past] && met[past][last]
			}
		}
	}
	return met
}

// groups are, for each function, the least one that it meets and that meets it; -1 where there is none.
func groups(callees [][]int) []int {
	met := meets(callees)
	least := make([]int, len(met))
	for fun := range met {
		least[fun] = -1
		for other := range met {
			if met[fun][other] && met[other][fun] {
				least[fun] = other
				break
			}
		}
	}
	return least
}
