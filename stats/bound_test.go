package stats

import (
	"math/big"
	"testing"

	"letterbag/api"
)

// exactlyExceeds reports whether a chance of n trials exceeds a risk, by the definition.
func exactlyExceeds(chance *big.Int, n, risk int) bool {
	left := new(big.Int).Mul(chance, big.NewInt(Whole))
	right := new(big.Int).Mul(all(Whole, n), big.NewInt(int64(risk)))
	return left.Cmp(right) > 0
}

// upperExceeds and lowerExceeds report whether a share is possible, by exact chances.
func upperExceeds(n, k, share, risk int) bool {
	return exactlyExceeds(exactSum(exactChances(n, share)[k:]), n, risk)
}

func lowerExceeds(n, k, share, risk int) bool {
	return exactlyExceeds(exactSum(exactChances(n, share)[:k+1]), n, risk)
}

// checkBounds compares both bounds with the chances at the bound, and at the share beside it.
func checkBounds(t *testing.T, n, k, risk int) {
	t.Helper()
	least, err := Least(n, k, risk)
	if err != api.OK || !isShare(least) || !upperExceeds(n, k, least, risk) || least > 0 && upperExceeds(n, k, least-1, risk) {
		t.Fatalf("Least(%d, %d, %d) = %d, %d", n, k, risk, least, err)
	}
	greatest, err := Greatest(n, k, risk)
	if err != api.OK || !isShare(greatest) || !lowerExceeds(n, k, greatest, risk) || greatest < Whole && lowerExceeds(n, k, greatest+1, risk) {
		t.Fatalf("Greatest(%d, %d, %d) = %d, %d", n, k, risk, greatest, err)
	}
}

func TestP4_2Bounds(t *testing.T) {
	for _, n := range []int{0, 1, 2, 3, 4, 5, 10, 17, 33} {
		for k := 0; k <= n; k++ {
			for _, risk := range risks {
				checkBounds(t, n, k, risk)
			}
		}
	}
}

func TestP4_2BoundsOfManyTrials(t *testing.T) {
	for _, n := range []int{100, MaxTrials - 1, MaxTrials} {
		for _, k := range []int{0, 1, n / 10, n / 2, n - 1, n} {
			for _, risk := range []int{1, 500, MaxRisk} {
				checkBounds(t, n, k, risk)
			}
		}
	}
}

// TestP4_2EveryShare looks for the bounds among all shares, one by one.
func TestP4_2EveryShare(t *testing.T) {
	for _, c := range []struct{ n, risk int }{{0, 500}, {1, 1}, {1, MaxRisk}, {2, 1000}, {3, 500}, {4, 1}} {
		least, greatest := make([]int, c.n+1), make([]int, c.n+1)
		for k := range least {
			least[k], greatest[k] = -1, -1
		}
		for share := 0; share <= Whole; share++ {
			chances := exactChances(c.n, share)
			for k := range chances {
				if least[k] < 0 && exactlyExceeds(exactSum(chances[k:]), c.n, c.risk) {
					least[k] = share
				}
				if exactlyExceeds(exactSum(chances[:k+1]), c.n, c.risk) {
					greatest[k] = share
				}
			}
		}
		for k := range least {
			if got, err := Least(c.n, k, c.risk); got != least[k] || err != api.OK {
				t.Errorf("Least(%d, %d, %d) = %d, %d; want %d", c.n, k, c.risk, got, err, least[k])
			}
			if got, err := Greatest(c.n, k, c.risk); got != greatest[k] || err != api.OK {
				t.Errorf("Greatest(%d, %d, %d) = %d, %d; want %d", c.n, k, c.risk, got, err, greatest[k])
			}
		}
	}
}

// TestP4_2OneTrial checks that a chance that is equal to the risk does not exceed it: of one trial the chance of a success is the share itself.
func TestP4_2OneTrial(t *testing.T) {
	for risk := 1; risk <= MaxRisk; risk++ {
		least, _ := Least(1, 1, risk)
		greatest, _ := Greatest(1, 0, risk)
		if least != risk+1 || greatest != Whole-risk-1 {
			t.Fatalf("the bounds for the risk %d: %d, %d", risk, least, greatest)
		}
	}
}

// TestP4_2NoneAndAll checks that no share is too low for no successes, and none too high where every trial succeeded.
func TestP4_2NoneAndAll(t *testing.T) {
	for _, n := range trials {
		for _, risk := range risks {
			if got, err := Least(n, 0, risk); got != 0 || err != api.OK {
				t.Errorf("Least(%d, 0, %d) = %d, %d", n, risk, got, err)
			}
			if got, err := Greatest(n, n, risk); got != Whole || err != api.OK {
				t.Errorf("Greatest(%d, %d, %d) = %d, %d", n, n, risk, got, err)
			}
		}
	}
}
