package civil

import (
	"math"
	"slices"
	"testing"

	"letterbag/api"
)

// evenly returns a list of holidays, each so many days behind the one before.
func evenly(first, step, count int) []int {
	days := make([]int, count)
	for i := range days {
		days[i] = first + i*step
	}
	return days
}

// lists are some right lists of holidays, the longest ones among them.
func lists() [][]int {
	return [][]int{
		nil, {}, {0}, {1}, {5, 6}, {1, 5, 8, 365}, {0, 1, 2, 3, 4, 7, 8},
		evenly(0, 1, MaxHolidays), evenly(3, 2, MaxHolidays), evenly(0, 730, MaxHolidays),
		evenly(api.MaxDay-MaxHolidays+1, 1, MaxHolidays),
	}
}

// wrongLists are lists that are not right.
func wrongLists() [][]int {
	return [][]int{
		{-1}, {math.MinInt, 3}, {api.MaxDay + 1}, {3, math.MaxInt}, {1, 1}, {2, 1}, {1, 3, 2, 4}, {1, 2, 3, 3},
		evenly(0, 1, MaxHolidays+1),
	}
}

// works tells by the definition whether a day is a working day.
func works(day int, holidays []int) bool {
	return day%7 != 5 && day%7 != 6 && !slices.Contains(holidays, day)
}

func TestP1_4Right(t *testing.T) {
	for i, holidays := range append(lists(), []int{0, api.MaxDay}) {
		if !Right(holidays) {
			t.Error("list", i)
		}
	}
	for i, holidays := range wrongLists() {
		if Right(holidays) {
			t.Error("wrong list", i)
		}
	}
}

func TestP1_4Works(t *testing.T) {
	for i, holidays := range lists() {
		for _, first := range []int{0, 350, 990, api.MaxDay - 1010} {
			for day := first; day <= min(first+1010, api.MaxDay); day++ {
				if got, err := Works(day, holidays); got != works(day, holidays) || err != api.OK {
					t.Fatalf("list %d: Works(%d) = %v, %d", i, day, got, err)
				}
			}
		}
	}
}

func TestP1_4WorksErrors(t *testing.T) {
	for _, c := range dayErrors(api.MaxDay) {
		if got, err := Works(c.n, nil); got || err != c.want {
			t.Errorf("Works(%d) = %v, %d", c.n, got, err)
		}
	}
	for i, holidays := range wrongLists() {
		for _, day := range []int{0, -1, api.MaxDay + 1} { // a wrong list comes first
			if got, err := Works(day, holidays); got || err != api.ErrArg {
				t.Errorf("wrong list %d: Works(%d) = %v, %d", i, day, got, err)
			}
		}
	}
}

func TestP1_4Between(t *testing.T) {
	for i, holidays := range lists() {
		for _, from := range []int{0, 1, 4, 5, 6, 7, 360, 995, 2000, api.MaxDay - 1005} {
			want := 0
			for to := from; to <= min(from+1005, api.MaxDay); to++ {
				if got, err := Between(from, to, holidays); got != want || err != api.OK {
					t.Fatalf("list %d: Between(%d, %d) = %d, %d; want %d", i, from, to, got, err, want)
				}
				if works(to, holidays) {
					want++
				}
			}
		}
	}
	if got, err := Between(0, 7, []int{1}); got != 4 || err != api.OK {
		t.Error(got, err)
	}
	if got, err := Between(0, api.MaxDay, nil); got != 521775 || err != api.OK {
		t.Error(got, err)
	}
}

func TestP1_4BetweenErrors(t *testing.T) {
	for _, c := range []struct {
		from, to int
		want     api.Errno
	}{
		{-1, 0, api.ErrArg}, {math.MinInt, math.MaxInt, api.ErrArg}, {1, 0, api.ErrArg}, {math.MaxInt, 0, api.ErrArg},
		{0, -1, api.ErrArg}, {api.MaxDay + 2, api.MaxDay + 1, api.ErrArg}, {-1, api.MaxDay + 1, api.ErrArg},
		{0, api.MaxDay + 1, api.ErrLong}, {api.MaxDay + 1, api.MaxDay + 1, api.ErrLong}, {0, math.MaxInt, api.ErrLong},
	} {
		if got, err := Between(c.from, c.to, nil); got != 0 || err != c.want {
			t.Errorf("Between(%d, %d) = %d, %d", c.from, c.to, got, err)
		}
	}
	for i, holidays := range wrongLists() {
		for _, to := range []int{9, api.MaxDay + 1} {
			if got, err := Between(0, to, holidays); got != 0 || err != api.ErrArg {
				t.Errorf("wrong list %d: Between(0, %d) = %d, %d", i, to, got, err)
			}
		}
	}
}

func TestP1_4Ahead(t *testing.T) {
	for i, holidays := range lists() {
		for _, day := range []int{0, 1, 4, 5, 6, 7, 360, 995, 2000} {
			want := day
			for n := range 50 {
				for !works(want, holidays) {
					want++
				}
				if got, err := Ahead(day, n, holidays); got != want || err != api.OK {
					t.Fatalf("list %d: Ahead(%d, %d) = %d, %d; want %d", i, day, n, got, err, want)
				}
				want++
			}
		}
	}
	for _, c := range []struct{ day, n, want int }{{0, 1, 2}, {5, 0, 7}, {0, 0, 0}, {1, 0, 2}} {
		if got, err := Ahead(c.day, c.n, []int{1}); got != c.want || err != api.OK {
			t.Errorf("Ahead(%d, %d) = %d, %d", c.day, c.n, got, err)
		}
	}
}

// TestP1_4AheadAtTheEnd goes up to the last working day, which is the Friday in front of the last day.
func TestP1_4AheadAtTheEnd(t *testing.T) {
	friday := api.MaxDay - 2
	for _, c := range []struct {
		day, n   int
		holidays []int
		want     int
		err      api.Errno
	}{
		{friday, 0, nil, friday, api.OK}, {friday, 1, nil, 0, api.ErrLong}, {friday + 1, 0, nil, 0, api.ErrLong}, {api.MaxDay, 0, nil, 0, api.ErrLong},
		{0, 521774, nil, friday, api.OK}, {0, 521775, nil, 0, api.ErrLong},
		{friday, 0, []int{friday}, 0, api.ErrLong}, {friday - 1, 0, []int{friday}, friday - 1, api.OK}, {friday - 1, 1, []int{friday}, 0, api.ErrLong},
		{0, 521773, []int{9}, friday, api.OK}, {0, 521774, []int{9}, 0, api.ErrLong}, {0, 521774, []int{5}, friday, api.OK},
		{api.MaxDay - 999, 0, evenly(api.MaxDay-999, 1, MaxHolidays), 0, api.ErrLong},
	} {
		if got, err := Ahead(c.day, c.n, c.holidays); got != c.want || err != c.err {
			t.Errorf("Ahead(%d, %d) = %d, %d; want %d, %d", c.day, c.n, got, err, c.want, c.err)
		}
	}
}

func TestP1_4AheadErrors(t *testing.T) {
	for _, c := range []struct {
		day, n int
		want   api.Errno
	}{
		{-1, 0, api.ErrArg}, {math.MinInt, 0, api.ErrArg}, {0, -1, api.ErrArg}, {0, math.MinInt, api.ErrArg},
		{api.MaxDay + 1, -1, api.ErrArg}, {-1, math.MaxInt, api.ErrArg}, // the first error of both
		{api.MaxDay + 1, 0, api.ErrLong}, {math.MaxInt, 0, api.ErrLong}, {0, math.MaxInt, api.ErrLong}, {math.MaxInt, math.MaxInt, api.ErrLong},
	} {
		if got, err := Ahead(c.day, c.n, nil); got != 0 || err != c.want {
			t.Errorf("Ahead(%d, %d) = %d, %d", c.day, c.n, got, err)
		}
	}
	for i, holidays := range wrongLists() {
		for _, day := range []int{0, api.MaxDay + 1} {
			if got, err := Ahead(day, 0, holidays); got != 0 || err != api.ErrArg {
				t.Errorf("wrong list %d: Ahead(%d, 0) = %d, %d", i, day, got, err)
			}
		}
	}
}

func TestP1_6WorkingDays(t *testing.T) {
	for i, holidays := range lists() {
		for a := 0; a < 2500; a += 101 {
			for b := a; b < 2500; b += 97 {
				left, _ := Between(0, a, holidays)
				right, _ := Between(a, b, holidays)
				if sum, _ := Between(0, b, holidays); sum != left+right {
					t.Fatalf("list %d: Between(0, %d, %d) = %d + %d, not %d", i, a, b, left, right, sum)
				}
			}
			for n := 0; n < 2500; n += 83 {
				day, err := Ahead(a, n, holidays)
				if err != api.OK {
					t.Fatalf("list %d: Ahead(%d, %d): %d", i, a, n, err)
				}
				if got, _ := Between(a, day, holidays); got != n {
					t.Fatalf("list %d: %d working days from %d on to %d, not %d", i, got, a, day, n)
				}
				if works, _ := Works(day, holidays); !works {
					t.Fatalf("list %d: %d is no working day", i, day)
				}
			}
		}
	}
}

// TestHolidaysAreNotModified checks the rule R3, also for the spare capacity.
func TestHolidaysAreNotModified(t *testing.T) {
	kept := []int{1, 5, 8, 365, 2, -7, 99}
	room := slices.Clone(kept)
	for _, holidays := range [][]int{room[:4], room[:5]} { // a right list and a wrong one
		Right(holidays)
		Works(8, holidays)
		Between(0, 400, holidays)
		Ahead(0, 300, holidays)
		if !slices.Equal(room, kept) {
			t.Fatal(room)
		}
	}
}
