package money

import (
	"fmt"
	"math"
	"math/big"
	"slices"
	"testing"

	"letterbag/api"
)

// amounts are some amounts, with those at the limits.
var amounts = []int{
	0, 1, -1, 2, -2, 3, -3, 5, -5, 10, 99, 100, -100, 105, -105, 1050, -1050, 4999, 5000, 5001, -5000, 9999, 10000, -10000, 10001, 15000, -15000, 123456789, -123456789,
	999999999999999, MaxCents - 5000, MaxCents - 1, MaxCents, -MaxCents + 1, -MaxCents, 922337203685477, -922337203685477,
}

// noAmounts are numbers that are no amounts.
var noAmounts = []int{MaxCents + 1, -MaxCents - 1, 2 * MaxCents, -2 * MaxCents, math.MaxInt, math.MinInt, math.MaxInt - 1, math.MinInt + 1}

// repeated returns a list of the same number.
func repeated(n, count int) []int {
	return slices.Repeat([]int{n}, count)
}

func TestP2_1Right(t *testing.T) {
	for _, n := range amounts {
		if !Right(n) {
			t.Errorf("Right(%d) = false", n)
		}
	}
	for _, n := range noAmounts {
		if Right(n) {
			t.Errorf("Right(%d) = true", n)
		}
	}
}

func TestP2_1Add(t *testing.T) {
	for _, a := range amounts {
		for _, b := range amounts {
			want, wantErr := a+b, api.OK
			if want > MaxCents || want < -MaxCents {
				want, wantErr = 0, api.ErrLong
			}
			if got, err := Add(a, b); got != want || err != wantErr {
				t.Errorf("Add(%d, %d) = %d, %d", a, b, got, err)
			}
		}
	}
	for _, n := range noAmounts {
		for _, other := range []int{0, -MaxCents, MaxCents, -n, n} { // ErrArg comes ahead of ErrLong, and where the sum is an amount too
			for _, c := range [][2]int{{n, other}, {other, n}} {
				if got, err := Add(c[0], c[1]); got != 0 || err != api.ErrArg {
					t.Errorf("Add(%d, %d) = %d, %d", c[0], c[1], got, err)
				}
			}
		}
	}
}

func TestP2_1Sum(t *testing.T) {
	full := append(repeated(MaxCents, MaxList/2), repeated(-MaxCents, MaxList/2)...)
	almost := append(repeated(-MaxCents, MaxList/2), repeated(MaxCents, MaxList/2)...)
	almost[0]++
	for i, c := range []struct {
		list []int
		want int
		err  api.Errno
	}{
		{nil, 0, api.OK}, {[]int{}, 0, api.OK}, {[]int{7}, 7, api.OK}, {[]int{-7}, -7, api.OK}, {[]int{1, -20, 300}, 281, api.OK},
		{[]int{MaxCents}, MaxCents, api.OK}, {[]int{-MaxCents, 0}, -MaxCents, api.OK}, {[]int{MaxCents - 1, 1}, MaxCents, api.OK},
		{[]int{MaxCents, 1}, 0, api.ErrLong}, {[]int{-1, -MaxCents}, 0, api.ErrLong},
		// Only the whole sum counts.
		{[]int{MaxCents, 1, -1}, MaxCents, api.OK}, {[]int{-MaxCents, -MaxCents, 5, MaxCents}, -MaxCents + 5, api.OK}, {[]int{MaxCents, -1, 2}, 0, api.ErrLong},
		{full, 0, api.OK}, {almost, 1, api.OK}, {repeated(1, MaxList), MaxList, api.OK},
		{repeated(MaxCents, MaxList), 0, api.ErrLong}, {repeated(-MaxCents, MaxList), 0, api.ErrLong},
		{repeated(0, MaxList+1), 0, api.ErrMany},
		// The first error of several.
		{repeated(MaxCents+1, MaxList+1), 0, api.ErrMany}, {repeated(MaxCents, MaxList+1), 0, api.ErrMany},
		{[]int{MaxCents, MaxCents, MaxCents + 1}, 0, api.ErrArg}, {append(repeated(0, MaxList-1), -MaxCents-1), 0, api.ErrArg},
	} {
		if got, err := Sum(c.list...); got != c.want || err != c.err {
			t.Errorf("list %d: %d, %d; want %d, %d", i, got, err, c.want, c.err)
		}
	}
	for _, n := range noAmounts {
		for _, list := range [][]int{{n}, {n, -n}, {1, n}, {n, 1, n, 1}} {
			if got, err := Sum(list...); got != 0 || err != api.ErrArg {
				t.Errorf("Sum(%v) = %d, %d", list, got, err)
			}
		}
	}
}

// rounded divides by the definition of a way of rounding: of the whole numbers around a / b it takes the one that the way says.
func rounded(a, b *big.Int, way uint8) int {
	down, rest := new(big.Int).DivMod(a, b, new(big.Int))
	half := new(big.Int).Lsh(rest, 1).Cmp(b) // whether the one above is as near as the one below
	n := int(down.Int64())
	up := false
	switch {
	case rest.Sign() == 0 || way == RoundDown:
	case way == RoundUp:
		up = true
	case half != 0:
		up = half > 0
	case way == RoundHalf:
		up = a.Sign() > 0
	case way == RoundEven:
		up = n%2 != 0
	}
	if up {
		return n + 1
	}
	return n
}

// product returns the product of two numbers, which may be too long for an int.
func product(a, b int) *big.Int {
	return new(big.Int).Mul(big.NewInt(int64(a)), big.NewInt(int64(b)))
}

// shares are some shares, with those at the limits.
var shares = []int{0, 1, 2, 3, 99, 100, 2500, 3333, 4999, 5000, 5001, 6667, 7500, 9998, 9999, Whole}

func TestP2_2Share(t *testing.T) {
	for _, cents := range amounts {
		for _, share := range shares {
			for way := RoundDown; way <= RoundEven; way++ {
				want := rounded(product(cents, share), big.NewInt(Whole), way)
				if got, err := Share(cents, share, way); got != want || err != api.OK {
					t.Errorf("Share(%d, %d, %d) = %d, %d; want %d", cents, share, way, got, err, want)
				}
			}
		}
	}
}

func TestP2_2Ways(t *testing.T) {
	for _, c := range []struct{ cents, share, down, up, half, even int }{
		{1050, 5000, 525, 525, 525, 525}, {105, 5000, 52, 53, 53, 52}, {-105, 5000, -53, -52, -53, -52},
		{1, 5000, 0, 1, 1, 0}, {-1, 5000, -1, 0, -1, 0}, {3, 5000, 1, 2, 2, 2}, {-3, 5000, -2, -1, -2, -2},
		{1, 4999, 0, 1, 0, 0}, {-1, 4999, -1, 0, 0, 0}, {1, 5001, 0, 1, 1, 1}, {-1, 5001, -1, 0, -1, -1},
		{1, 1, 0, 1, 0, 0}, {-1, 1, -1, 0, 0, 0}, {1, 9999, 0, 1, 1, 1}, {-1, 9999, -1, 0, -1, -1},
		{0, 5000, 0, 0, 0, 0}, {77, 0, 0, 0, 0, 0}, {-77, 0, 0, 0, 0, 0}, {77, Whole, 77, 77, 77, 77}, {-77, Whole, -77, -77, -77, -77},
		{MaxCents, Whole, MaxCents, MaxCents, MaxCents, MaxCents}, {-MaxCents, Whole, -MaxCents, -MaxCents, -MaxCents, -MaxCents},
		{MaxCents - 1, 5000, 499999999999999, 500000000000000, 500000000000000, 500000000000000},
		{-MaxCents + 1, 5000, -500000000000000, -499999999999999, -500000000000000, -500000000000000},
	} {
		for i, want := range []int{c.down, c.up, c.half, c.even} {
			way := RoundDown + uint8(i)
			if got, err := Share(c.cents, c.share, way); got != want || err != api.OK {
				t.Errorf("Share(%d, %d, %d) = %d, %d; want %d", c.cents, c.share, way, got, err, want)
			}
		}
	}
}

func TestP2_2Errors(t *testing.T) {
	for _, way := range []uint8{0, 5, 6, 128, 255} {
		for _, cents := range []int{0, 105, -MaxCents, MaxCents + 1} {
			if got, err := Share(cents, 5000, way); got != 0 || err != api.ErrArg {
				t.Errorf("Share(%d, 5000, %d) = %d, %d", cents, way, got, err)
			}
		}
	}
	for way := RoundDown; way <= RoundEven; way++ {
		for _, share := range []int{-1, Whole + 1, -5000, math.MaxInt, math.MinInt} {
			if got, err := Share(105, share, way); got != 0 || err != api.ErrArg {
				t.Errorf("Share(105, %d, %d) = %d, %d", share, way, got, err)
			}
		}
		for _, cents := range noAmounts {
			for _, share := range []int{0, 5000, Whole, math.MinInt} {
				if got, err := Share(cents, share, way); got != 0 || err != api.ErrArg {
					t.Errorf("Share(%d, %d, %d) = %d, %d", cents, share, way, got, err)
				}
			}
		}
	}
}

// ascending returns the weights 0, 1, 2 and so on.
func ascending(count int) []int {
	weights := make([]int, count)
	for i := range weights {
		weights[i] = i
	}
	return weights
}

// weightLists are lists of weights, with those at the limits.
func weightLists() [][]int {
	last := append(repeated(0, MaxList-1), 1)
	return [][]int{
		{1}, {MaxWeight}, {1, 1, 1}, {0, 3, 1}, {0, 0, 5, 0}, {3, 0, 0, 7, 0, 11}, {MaxWeight, 1}, {1, MaxWeight}, {MaxWeight, MaxWeight, MaxWeight},
		{999999, 999983, 7}, {1, 2, 3, 4, 5, 6, 7, 8, 9, 10}, repeated(1, MaxList), repeated(MaxWeight, MaxList), repeated(999999, MaxList),
		ascending(MaxList), last, append([]int{MaxWeight}, repeated(0, MaxList-1)...),
	}
}

// splitByHand splits by the definition.
func splitByHand(cents int, weights []int) []int {
	whole := 0
	for _, w := range weights {
		whole += w
	}
	parts := make([]int, len(weights))
	left := cents
	for i, w := range weights {
		parts[i] = rounded(product(cents, w), big.NewInt(int64(whole)), RoundDown)
		left -= parts[i]
	}
	for i := 0; left > 0; i++ {
		if weights[i] != 0 {
			parts[i]++
			left--
		}
	}
	return parts
}

func TestP2_3Split(t *testing.T) {
	for i, weights := range weightLists() {
		for _, cents := range amounts {
			want := splitByHand(cents, weights)
			if got, err := Split(cents, weights); !slices.Equal(got, want) || err != api.OK {
				t.Fatalf("list %d: Split(%d) is wrong, %d", i, cents, err)
			}
		}
	}
}

func TestP2_3Examples(t *testing.T) {
	for _, c := range []struct {
		cents         int
		weights, want []int
	}{
		{100, []int{1, 1, 1}, []int{34, 33, 33}}, {-100, []int{1, 1, 1}, []int{-33, -33, -34}}, {10, []int{0, 3, 1}, []int{0, 8, 2}},
		{5, []int{0, 0, 1, 1}, []int{0, 0, 3, 2}}, {-5, []int{0, 0, 1, 1}, []int{0, 0, -2, -3}}, {2, []int{0, 1, 0, 1, 1}, []int{0, 1, 0, 1, 0}},
		{0, []int{1, 2}, []int{0, 0}}, {1, []int{1, MaxWeight}, []int{1, 0}}, {-1, []int{1, MaxWeight}, []int{0, -1}}, {7, []int{5}, []int{7}},
		{MaxCents, []int{MaxWeight}, []int{MaxCents}}, {-MaxCents, []int{0, 1}, []int{0, -MaxCents}},
	} {
		if got, err := Split(c.cents, c.weights); !slices.Equal(got, c.want) || err != api.OK {
			t.Errorf("Split(%d, %v) = %v, %d; want %v", c.cents, c.weights, got, err, c.want)
		}
	}
}

func TestP2_3Errors(t *testing.T) {
	for i, weights := range [][]int{
		nil, {}, {0}, {0, 0, 0}, repeated(0, MaxList), {-1}, {1, -1}, {-1, 1}, {2, -1, 3}, {MaxWeight + 1}, {1, MaxWeight + 1}, {0, MaxWeight + 1, 0},
		{math.MaxInt}, {math.MinInt}, {math.MaxInt, math.MaxInt}, {math.MinInt, math.MinInt}, {math.MaxInt, math.MinInt, 2}, {1, math.MaxInt},
		append(repeated(1, MaxList-1), -1),
	} {
		for _, cents := range []int{0, 100, MaxCents + 1} {
			if got, err := Split(cents, weights); len(got) != 0 || err != api.ErrArg {
				t.Errorf("list %d: Split(%d) = %v, %d", i, cents, got, err)
			}
		}
	}
	for _, cents := range noAmounts {
		if got, err := Split(cents, []int{1, 2}); len(got) != 0 || err != api.ErrArg {
			t.Errorf("Split(%d) = %v, %d", cents, got, err)
		}
	}
	for _, n := range []int{1, 0, -1} { // the first error of several
		for _, cents := range []int{5, MaxCents + 1} {
			if got, err := Split(cents, repeated(n, MaxList+1)); len(got) != 0 || err != api.ErrMany {
				t.Errorf("Split(%d) of too many %d = %d parts, %d", cents, n, len(got), err)
			}
		}
	}
}

func TestP2_5SplitsAddUp(t *testing.T) {
	for i, weights := range weightLists() {
		whole, _ := Sum(weights...)
		for _, cents := range amounts {
			parts, _ := Split(cents, weights)
			if sum, err := Sum(parts...); sum != cents || err != api.OK {
				t.Fatalf("list %d: the parts of %d are %d, %d", i, cents, sum, err)
			}
			for j, part := range parts {
				exact := rounded(product(cents, weights[j]), big.NewInt(int64(whole)), RoundDown)
				if part != exact && part != exact+1 || weights[j] == 0 && part != 0 {
					t.Fatalf("list %d: part %d of %d is %d", i, j, cents, part)
				}
			}
		}
	}
}

func TestP2_5SharesAddUp(t *testing.T) {
	for _, cents := range amounts {
		for share := 0; share <= Whole; share += 7 {
			down, _ := Share(cents, share, RoundDown)
			up, _ := Share(cents, Whole-share, RoundUp)
			if down+up != cents {
				t.Fatalf("the shares of %d by %d and the rest are %d and %d", cents, share, down, up)
			}
		}
	}
}

func TestP2_5MultipliedWeights(t *testing.T) {
	for _, weights := range [][]int{{1}, {1, 1, 1}, {0, 3, 1}, {0, 0, 5, 0}, {1, 2, 3, 4, 5, 6, 7, 8, 9, 10}, repeated(10, MaxList), ascending(11)} {
		for _, times := range []int{2, 3, 10, 9999, MaxWeight / 10} {
			more := slices.Clone(weights)
			for i := range more {
				more[i] *= times
			}
			for _, cents := range amounts {
				a, _ := Split(cents, weights)
				if b, err := Split(cents, more); !slices.Equal(a, b) || err != api.OK {
					t.Fatalf("Split(%d) by %d times the weights differs, %d", cents, times, err)
				}
			}
		}
	}
}

// TestR3Unmodified checks that lists are left as they are, with what lies behind them, and that results are not kept.
func TestR3Unmodified(t *testing.T) {
	all := []int{1, 1, 1, 77, 88}
	list := all[:3]
	parts, _ := Split(100, list)
	Sum(list...)
	if !slices.Equal(all, []int{1, 1, 1, 77, 88}) {
		t.Error(all)
	}
	parts[0] = 5
	_ = append(parts, 6)
	again, _ := Split(100, list)
	if got := fmt.Sprint(again, all); got != "[34 33 33] [1 1 1 77 88]" {
		t.Error(got)
	}
}

// TestNumbers pins the numbers that programs which use the package may store or show.
func TestNumbers(t *testing.T) {
	got := []int{int(ErrText), MaxCents, MaxList, MaxWeight, Whole, int(RoundDown), int(RoundUp), int(RoundHalf), int(RoundEven)}
	if !slices.Equal(got, []int{20, 1e15, 4096, 1e6, 10000, 1, 2, 3, 4}) {
		t.Error(got)
	}
}
