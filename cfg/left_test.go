package cfg

import (
	"testing"

	"hallmark/api"
)

// Iterators that are broken off yield nothing more.
func TestBrokenOff(t *testing.T) {
	branch := api.End{K: api.EndBranch, To: 1, Else: 2}
	f := api.Func{Blocks: []api.Block{{End: branch}, {End: branch}, {End: branch}}}
	for many := range 4 {
		blocks, ends := 0, 0
		for range left(f) {
			if blocks++; blocks >= many {
				break
			}
		}
		for range targets(branch) {
			if ends++; ends >= many {
				break
			}
		}
		if blocks != max(1, many) || ends != min(2, max(1, many)) {
			t.Error(many, blocks, ends)
		}
	}
}
