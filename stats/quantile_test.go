package stats

import (
	"math"
	"slices"
	"testing"

	"letterbag/api"
)

// exactQuantile finds a quantile by the definition, among all numbers of a list.
func exactQuantile(l []int, q int) int {
	least, found := 0, false
	for _, x := range l {
		count := 0
		for _, y := range l {
			if y <= x {
				count++
			}
		}
		if count*Whole >= q*len(l) && (!found || x < least) {
			least, found = x, true
		}
	}
	return least
}

// scattered returns numbers without a pattern, from 0 to below a limit, always the same ones for the same seed.
func scattered(count, limit int, seed uint64) []int {
	l := make([]int, count)
	for i := range l {
		seed = seed*6364136223846793005 + 1442695040888963407
		l[i] = int(seed>>33) % limit
	}
	return l
}

// falling returns numbers from count - 1 down to 0.
func falling(count int) []int {
	l := make([]int, count)
	for i := range l {
		l[i] = count - 1 - i
	}
	return l
}

func TestP4_3Quantile(t *testing.T) {
	lists := [][]int{
		{7}, {-7}, {0}, {math.MinInt}, {math.MaxInt}, {1, 2}, {2, 1}, {3, 3}, {3, 3, 3, 3, 3}, {5, 1, 4, 2}, {2, 2, 1, 1, 3}, {1, 2, 2, 2, 9}, {9, 2, 2, 2, 1},
		{0, -1, 1}, {math.MaxInt, math.MinInt}, {math.MaxInt, 0, math.MinInt, -1}, falling(7), falling(10), falling(101), scattered(99, 10, 1), scattered(300, 100000, 2), scattered(256, 2, 3),
	}
	for _, l := range lists {
		for _, q := range append([]int{100, 1000, 1001, 1999, 2000, 2001, 2499, 2501, 3334, 6666, 6667, 7499, 7501, 9000}, shares...) {
			if got, err := Quantile(l, q); got != exactQuantile(l, q) || err != api.OK {
				t.Errorf("Quantile(%v, %d) = %d, %d; want %d", l, q, got, err, exactQuantile(l, q))
			}
		}
	}
}

func TestP4_3EveryShare(t *testing.T) {
	for _, l := range [][]int{{4}, {30, 10, 20}, {6, 6, 1, 3, 3, 3, 9}, falling(16)} {
		for q := 0; q <= Whole; q++ {
			if got, err := Quantile(l, q); got != exactQuantile(l, q) || err != api.OK {
				t.Fatalf("Quantile(%v, %d) = %d, %d; want %d", l, q, got, err, exactQuantile(l, q))
			}
		}
	}
}

// TestP4_3LongestList has as many numbers as there are shares, so that each share but 0 selects one of them.
func TestP4_3LongestList(t *testing.T) {
	mixed := make([]int, MaxList)
	for i := range mixed {
		mixed[i] = i * 7919 % MaxList // each of the numbers from 0 on once, since 7919 is a prime
	}
	for _, l := range [][]int{falling(MaxList), mixed} {
		for _, q := range shares {
			if got, err := Quantile(l, q); got != max(0, q-1) || err != api.OK {
				t.Errorf("Quantile(.., %d) = %d, %d", q, got, err)
			}
		}
	}
	for _, q := range shares {
		if got, err := Quantile(slices.Repeat([]int{-5}, MaxList), q); got != -5 || err != api.OK {
			t.Errorf("the quantile %d of equal numbers: %d, %d", q, got, err)
		}
	}
}

func TestP4_3Errors(t *testing.T) {
	for _, c := range []struct {
		l    []int
		q    int
		want api.Errno
	}{
		{falling(MaxList + 1), 0, api.ErrMany}, {falling(MaxList + 1), 5000, api.ErrMany}, {falling(3 * MaxList), Whole, api.ErrMany},
		{nil, 0, api.ErrNone}, {nil, 5000, api.ErrNone}, {[]int{}, Whole, api.ErrNone}, {make([]int, 0, 5), 1, api.ErrNone},
	} {
		if got, err := Quantile(c.l, c.q); got != 0 || err != c.want {
			t.Errorf("Quantile of %d numbers, %d: %d, %d; want %d", len(c.l), c.q, got, err, c.want)
		}
	}
	for _, q := range noShares { // in the order of the table: ErrMany, ErrArg, ErrNone
		for _, c := range []struct {
			l    []int
			want api.Errno
		}{{[]int{5, 1, 4, 2}, api.ErrArg}, {falling(MaxList), api.ErrArg}, {nil, api.ErrArg}, {[]int{}, api.ErrArg}, {falling(MaxList + 1), api.ErrMany}} {
			if got, err := Quantile(c.l, q); got != 0 || err != c.want {
				t.Errorf("Quantile of %d numbers, %d: %d, %d; want %d", len(c.l), q, got, err, c.want)
			}
		}
	}
}

// TestR3Unmodified checks that numbers stay as they were, with what lies behind them.
func TestR3Unmodified(t *testing.T) {
	whole := []int{5, 1, 4, 2, 0, -3}
	for _, q := range []int{0, 5000, Whole, -1} {
		Quantile(whole[:4], q)
	}
	many := scattered(MaxList, 1000000, 4)
	want := slices.Clone(many)
	Quantile(many, 5000)
	if !slices.Equal(whole, []int{5, 1, 4, 2, 0, -3}) || !slices.Equal(many, want) {
		t.Error("an argument was modified")
	}
}
