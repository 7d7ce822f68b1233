package stats

import (
	"encoding/binary"
	"math"
	"math/big"
	"slices"
	"testing"

	"letterbag/api"
	"letterbag/nat"
)

// value returns the value of limbs.
func value(a []uint32) *big.Int {
	var bytes []byte
	for _, limb := range slices.Backward(a) {
		bytes = binary.BigEndian.AppendUint32(bytes, limb)
	}
	return new(big.Int).SetBytes(bytes)
}

// all returns a number to a power by itself.
func all(a, n int) *big.Int {
	return new(big.Int).Exp(big.NewInt(int64(a)), big.NewInt(int64(n)), nil)
}

// exactChances returns the chances of 0, 1 and so on successes by their definition.
func exactChances(n, share int) []*big.Int {
	chances := make([]*big.Int, n+1)
	for k := range chances {
		chances[k] = new(big.Int).Binomial(int64(n), int64(k))
		chances[k].Mul(chances[k], all(share, k))
		chances[k].Mul(chances[k], all(Whole-share, n-k))
	}
	return chances
}

// exactSum returns the sum of chances.
func exactSum(chances []*big.Int) *big.Int {
	sum := new(big.Int)
	for _, chance := range chances {
		sum.Add(sum, chance)
	}
	return sum
}

// same reports a number that is not right, or is not the one that is wanted.
func same(t *testing.T, name string, n, k, share int, got []uint32, err api.Errno, want *big.Int) {
	t.Helper()
	if !nat.Right(got) || value(got).Cmp(want) != 0 || err != api.OK {
		t.Fatalf("%s(%d, %d, %d) = %v, %d; want %v", name, n, k, share, value(got), err, want)
	}
}

// trials are numbers of trials, with those at the limits.
var trials = []int{0, 1, 2, 3, 4, 5, 10, 17, 32, 33, 100, 255, MaxTrials - 1, MaxTrials}

// shares are some shares, with those at the limits.
var shares = []int{0, 1, 2, 500, 2500, 3333, 4999, 5000, 5001, 7500, 9998, 9999, Whole}

// risks are some risks, with those at the limits.
var risks = []int{1, 2, 3, 100, 500, 1000, 1999, MaxRisk}

// someSuccesses returns numbers of successes: all that there can be, or of many trials the first ones, the last ones and some between.
func someSuccesses(n int) []int {
	var list []int
	for k := 0; k <= n; k++ {
		if n <= 33 || k <= 2 || n-k <= 2 || k == n/10 || k == n/2 || k == n/2+1 {
			list = append(list, k)
		}
	}
	return list
}

// everyChance calls a function with some trials, successes and shares, and the exact chances.
func everyChance(call func(n, k, share int, chances []*big.Int)) {
	for _, n := range trials {
		for _, share := range shares {
			chances := exactChances(n, share)
			for _, k := range someSuccesses(n) {
				call(n, k, share, chances)
			}
		}
	}
}

func TestP4_1Choose(t *testing.T) {
	for n := 0; n <= 70; n++ {
		for k := 0; k <= n; k++ {
			got, err := Choose(n, k)
			same(t, "Choose", n, k, 0, got, err, new(big.Int).Binomial(int64(n), int64(k)))
		}
	}
	for _, n := range []int{100, 255, MaxTrials - 1, MaxTrials} {
		for k := 0; k <= n; k += 5 {
			got, err := Choose(n, k)
			same(t, "Choose", n, k, 0, got, err, new(big.Int).Binomial(int64(n), int64(k)))
		}
	}
}

func TestP4_1Chance(t *testing.T) {
	everyChance(func(n, k, share int, chances []*big.Int) {
		got, err := Chance(n, k, share)
		same(t, "Chance", n, k, share, got, err, chances[k])
	})
}

func TestP4_1Upper(t *testing.T) {
	everyChance(func(n, k, share int, chances []*big.Int) {
		got, err := Upper(n, k, share)
		same(t, "Upper", n, k, share, got, err, exactSum(chances[k:]))
	})
}

func TestP4_1Lower(t *testing.T) {
	everyChance(func(n, k, share int, chances []*big.Int) {
		got, err := Lower(n, k, share)
		same(t, "Lower", n, k, share, got, err, exactSum(chances[:k+1]))
	})
}

// TestP4_1NoTrials checks that the only chance of no trials is 1, whatever the share is.
func TestP4_1NoTrials(t *testing.T) {
	one := []uint32{1}
	if got, err := Choose(0, 0); !slices.Equal(got, one) || err != api.OK {
		t.Error(got, err)
	}
	for _, share := range shares {
		for i, call := range chanceFunctions {
			if got, err := call(0, 0, share); !slices.Equal(got, one) || err != api.OK {
				t.Errorf("function %d with the share %d: %v, %d", i, share, got, err)
			}
		}
	}
}

// TestP4_1SureShares checks the shares with which no trial succeeds, or every one does.
func TestP4_1SureShares(t *testing.T) {
	for _, n := range []int{1, 2, 10, MaxTrials} {
		for _, k := range someSuccesses(n) {
			for _, c := range []struct{ share, certain int }{{0, 0}, {Whole, n}} {
				got, _ := Chance(n, k, c.share)
				upper, _ := Upper(n, k, c.share)
				lower, _ := Lower(n, k, c.share)
				for i, x := range []struct {
					chance []uint32
					sure   bool
				}{{got, k == c.certain}, {upper, k <= c.certain}, {lower, k >= c.certain}} {
					want := new(big.Int)
					if x.sure {
						want = all(Whole, n)
					}
					if value(x.chance).Cmp(want) != 0 {
						t.Errorf("chance %d of %d of %d with the share %d: %v", i, k, n, c.share, value(x.chance))
					}
				}
			}
		}
	}
}

// TestP4_1Limbs checks that a chance of 500 trials has 208 limbs at most.
func TestP4_1Limbs(t *testing.T) {
	for _, share := range []int{0, 1, 5000, Whole} {
		if whole, err := Lower(MaxTrials, MaxTrials, share); len(whole) != 208 || err != api.OK {
			t.Errorf("%d limbs, %d", len(whole), err)
		}
	}
}

// chanceFunctions are the functions of trials, successes and a share.
var chanceFunctions = []func(n, k, share int) ([]uint32, api.Errno){Chance, Upper, Lower}

// boundFunctions are the functions of trials, successes and a risk.
var boundFunctions = []func(n, k, risk int) (int, api.Errno){Least, Greatest}

// noShares are numbers that are no shares.
var noShares = []int{-1, Whole + 1, -Whole, 2 * Whole, math.MaxInt, math.MinInt}

// noRisks are numbers that are no risks.
var noRisks = []int{0, MaxRisk + 1, -1, -500, Whole, math.MaxInt, math.MinInt}

// allFail checks that all functions of trials return an error for trials and successes, with a share and a risk.
func allFail(t *testing.T, n, k, share, risk int, want api.Errno) {
	t.Helper()
	if got, err := Choose(n, k); len(got) != 0 || err != want {
		t.Errorf("Choose(%d, %d) = %v, %d; want %d", n, k, got, err, want)
	}
	for i, call := range chanceFunctions {
		if got, err := call(n, k, share); len(got) != 0 || err != want {
			t.Errorf("function %d of %d, %d, %d: %v, %d; want %d", i, n, k, share, got, err, want)
		}
	}
	for i, call := range boundFunctions {
		if got, err := call(n, k, risk); got != 0 || err != want {
			t.Errorf("bound %d of %d, %d, %d: %d, %d; want %d", i, n, k, risk, got, err, want)
		}
	}
}

func TestP4_1And2WrongSuccesses(t *testing.T) {
	for _, c := range [][2]int{
		{0, -1}, {0, 1}, {1, 2}, {10, -1}, {10, 11}, {MaxTrials, -1}, {MaxTrials, MaxTrials + 1}, {10, math.MaxInt}, {10, math.MinInt},
		{-1, 0}, {-1, -1}, {-1, -2}, {-5, -7}, {-5, -3}, {-5, 2}, {math.MinInt, 0}, {math.MinInt, math.MinInt}, {math.MinInt, math.MaxInt},
		// ErrArg comes ahead of ErrLong.
		{MaxTrials + 1, -1}, {MaxTrials + 1, MaxTrials + 2}, {math.MaxInt, -1}, {math.MaxInt - 1, math.MaxInt}, {math.MaxInt, math.MinInt},
	} {
		allFail(t, c[0], c[1], 5000, 500, api.ErrArg)
	}
}

func TestP4_1And2TooManyTrials(t *testing.T) {
	for _, n := range []int{MaxTrials + 1, 2 * MaxTrials, 1 << 32, math.MaxInt} {
		for _, k := range []int{0, 1, 250, MaxTrials, MaxTrials + 1, n - 1, n} {
			allFail(t, n, k, 0, 1, api.ErrLong)
			allFail(t, n, k, Whole, MaxRisk, api.ErrLong)
		}
	}
}

func TestP4_1NoShares(t *testing.T) {
	for _, share := range noShares {
		for _, c := range [][2]int{{0, 0}, {10, 0}, {10, 5}, {MaxTrials, MaxTrials}, {10, 11}, {10, -1}, {MaxTrials + 1, 5}, {math.MaxInt, 0}} { // ErrArg comes ahead of ErrLong
			for i, call := range chanceFunctions {
				if got, err := call(c[0], c[1], share); len(got) != 0 || err != api.ErrArg {
					t.Errorf("function %d of %d, %d, %d: %v, %d", i, c[0], c[1], share, got, err)
				}
			}
		}
	}
}

func TestP4_2NoRisks(t *testing.T) {
	for _, risk := range noRisks {
		for _, c := range [][2]int{{0, 0}, {10, 0}, {10, 5}, {MaxTrials, MaxTrials}, {10, 11}, {10, -1}, {MaxTrials + 1, 5}, {math.MaxInt, 0}} { // ErrArg comes ahead of ErrLong
			for i, call := range boundFunctions {
				if got, err := call(c[0], c[1], risk); got != 0 || err != api.ErrArg {
					t.Errorf("bound %d of %d, %d, %d: %d, %d", i, c[0], c[1], risk, got, err)
				}
			}
		}
	}
}

func TestExamples(t *testing.T) {
	choices, err := Choose(5, 2)
	same(t, "Choose", 5, 2, 0, choices, err, big.NewInt(10))
	chance, err := Chance(2, 1, 2500)
	same(t, "Chance", 2, 1, 2500, chance, err, big.NewInt(2*2500*7500))
	upper, err := Upper(2, 1, 2500)
	same(t, "Upper", 2, 1, 2500, upper, err, big.NewInt(43750000))
	upper, err = Upper(10, 10, 7412)
	same(t, "Upper", 10, 10, 7412, upper, err, all(7412, 10))
	for _, c := range []struct {
		bound      func(n, k, risk int) (int, api.Errno)
		n, k, want int
	}{{Least, 10, 10, 7412}, {Greatest, 10, 0, 2588}, {Least, 10, 0, 0}, {Greatest, 0, 0, 10000}} {
		if got, err := c.bound(c.n, c.k, 500); got != c.want || err != api.OK {
			t.Errorf("the bound of %d of %d: %d, %d; want %d", c.k, c.n, got, err, c.want)
		}
	}
	for _, c := range [][2]int{{0, 1}, {5000, 2}, {9000, 5}, {10000, 5}} {
		if got, err := Quantile([]int{5, 1, 4, 2}, c[0]); got != c[1] || err != api.OK {
			t.Errorf("the quantile %d: %d, %d; want %d", c[0], got, err, c[1])
		}
	}
}

// TestR3Results overwrites all results, and calls again.
func TestR3Results(t *testing.T) {
	for i, call := range append(chanceFunctions, func(n, k, share int) ([]uint32, api.Errno) { return Choose(n, k) }) {
		for _, c := range [][3]int{{0, 0, 5}, {1, 0, Whole}, {3, 1, 2500}, {20, 20, Whole}, {20, 7, 0}, {100, 50, 5000}} {
			got, _ := call(c[0], c[1], c[2])
			want := slices.Clone(got)
			for j := range got[:cap(got)] {
				got[:cap(got)][j] = 0x5a5a5a5a
			}
			if again, err := call(c[0], c[1], c[2]); !slices.Equal(again, want) || err != api.OK {
				t.Errorf("function %d of %v kept a result: %v, %d", i, c, again, err)
			}
		}
	}
}

// TestNumbers pins the numbers that programs which use the package may store or show.
func TestNumbers(t *testing.T) {
	if got := []int{MaxTrials, MaxRisk, MaxList, Whole}; !slices.Equal(got, []int{500, 2000, 10000, 10000}) {
		t.Error(got)
	}
}
