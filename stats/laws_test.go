package stats

import (
	"math/big"
	"slices"
	"testing"

	"letterbag/api"
	"letterbag/nat"
)

func TestP4_4ChancesAreAll(t *testing.T) {
	everyChance(func(n, k, share int, chances []*big.Int) {
		upper, _ := Upper(n, k, share)
		var below []uint32
		if k > 0 {
			below, _ = Lower(n, k-1, share)
		}
		whole, _ := nat.Pow(nat.Of(Whole), n)
		if sum, err := nat.Add(upper, below); !slices.Equal(sum, whole) || err != api.OK {
			t.Fatalf("the chances of %d of %d, with the share %d, are not all", k, n, share)
		}
	})
}

func TestP4_4UpperChancesDoNotFall(t *testing.T) {
	for _, n := range []int{0, 1, 2, 9, 40} {
		for k := 0; k <= n; k++ {
			var last []uint32
			for share := 0; share <= Whole; share += 125 {
				upper, _ := Upper(n, k, share)
				if order, err := nat.Cmp(last, upper); order > 0 || err != api.OK {
					t.Fatalf("the upper chance of %d of %d falls before the share %d", k, n, share)
				}
				last = upper
			}
		}
	}
}

func TestP4_4BoundsAroundTheObservedShare(t *testing.T) {
	for _, n := range []int{1, 2, 3, 7, 12, 30, 99, MaxTrials} {
		for _, k := range someSuccesses(n) {
			for _, risk := range []int{1, 500, MaxRisk} {
				least, _ := Least(n, k, risk)
				greatest, _ := Greatest(n, k, risk)
				down, up := k*Whole/n, (k*Whole+n-1)/n
				if least > greatest || least > up || greatest < down {
					t.Errorf("the bounds of %d of %d for the risk %d are %d and %d", k, n, risk, least, greatest)
				}
			}
		}
	}
}

// TestP4_4Risk adds up the chances of those successes whose bounds are beyond the share.
func TestP4_4Risk(t *testing.T) {
	for _, n := range []int{0, 1, 2, 5, 11, 30} {
		for _, risk := range risks {
			least, greatest := make([]int, n+1), make([]int, n+1)
			for k := range least {
				least[k], _ = Least(n, k, risk)
				greatest[k], _ = Greatest(n, k, risk)
			}
			for _, share := range append([]int{risk, risk + 1, Whole - risk, Whole - risk - 1}, shares...) {
				var above, below []uint32
				for k := range least {
					chance, _ := Chance(n, k, share)
					if least[k] > share {
						above, _ = nat.Add(above, chance)
					}
					if greatest[k] < share {
						below, _ = nat.Add(below, chance)
					}
				}
				if exactlyExceeds(value(above), n, risk) || exactlyExceeds(value(below), n, risk) {
					t.Fatalf("the bounds of %d trials are beyond the share %d more often than the risk %d says", n, share, risk)
				}
			}
		}
	}
}
