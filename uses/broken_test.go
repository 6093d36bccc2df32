package uses

import (
	"testing"

	"hallmark/api"
)

// An iterator that is broken off yields nothing more: in a step, behind one, and in an end.
func TestBrokenOff(t *testing.T) {
	steps := []api.Op{{K: api.OpPut}, {K: api.OpTell}, {K: api.OpCall, L: []int{0, 9, 0}}}
	end := api.End{K: api.EndBranch, L: []int{0}, M: []int{-1, 0}}
	f := api.Func{Blocks: []api.Block{{Ops: steps, End: end}, {Ops: steps, End: end}}}
	for many := range 20 {
		found := 0
		for range uses(f) {
			if found++; found >= many {
				break
			}
		}
		if found != min(18, max(1, many)) {
			t.Error(many, found)
		}
	}
}
