package bound_test

import (
	"testing"

	"althing/api"
	"althing/bound"
)

func TestEdges(t *testing.T) {
	for _, x := range []struct {
		name      string
		got, want bool
	}{
		{"Within, below", bound.Within(1, 2, 5), false},
		{"Within, least", bound.Within(2, 2, 5), true},
		{"Within, most", bound.Within(5, 2, 5), true},
		{"Within, above", bound.Within(6, 2, 5), false},
		{"Below, -1", bound.Below(-1, 2), false},
		{"Below, 0", bound.Below(0, 2), true},
		{"Below, last", bound.Below(1, 2), true},
		{"Below, end", bound.Below(2, 2), false},
		{"Account, -1", bound.Account(-1), false},
		{"Account, 0", bound.Account(0), true},
		{"Account, last", bound.Account(api.MaxAcc - 1), true},
		{"Account, end", bound.Account(api.MaxAcc), false},
		{"Balance, -1", bound.Balance(-1), false},
		{"Balance, 0", bound.Balance(0), true},
		{"Balance, most", bound.Balance(api.MaxBal), true},
		{"Balance, above", bound.Balance(api.MaxBal + 1), false},
	} {
		if x.got != x.want {
			t.Errorf("%s: %v", x.name, x.got)
		}
	}
}

func TestNextEndsAtTheLastBlock(t *testing.T) {
	for _, x := range []struct {
		now, block int
		ok         bool
	}{{0, 1, true}, {41, 42, true}, {api.MaxBlock - 1, api.MaxBlock, true}, {api.MaxBlock, 0, false}, {1<<63 - 1, 0, false}} {
		if block, ok := bound.Next(x.now); block != x.block || ok != x.ok {
			t.Errorf("Next(%d): %d, %v", x.now, block, ok)
		}
	}
}
