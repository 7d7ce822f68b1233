package civil

import (
	"math"
	"testing"

	"letterbag/api"
)

// lengths has the days of the months of an ordinary year, as the chapter lists them.
var lengths = []int{31, 28, 31, 30, 31, 30, 31, 31, 30, 31, 30, 31}

// eachDate calls f with every day and its date, which it finds by counting.
func eachDate(f func(n, year, month, day int)) {
	n := 0
	for year := 2001; year <= 4000; year++ {
		for m, length := range lengths {
			if m == 1 && year%4 == 0 && !(year%100 == 0 && year%400 != 0) {
				length++
			}
			for day := 1; day <= length; day++ {
				f(n, year, m+1, day)
				n++
			}
		}
	}
}

// errorCase is an argument that a function of one number refuses.
type errorCase struct {
	n    int
	want api.Errno
}

func dayErrors(greatest int) []errorCase {
	return []errorCase{
		{-1, api.ErrArg}, {math.MinInt, api.ErrArg},
		{greatest + 1, api.ErrLong}, {math.MaxInt, api.ErrLong},
	}
}

func TestP1_1Leap(t *testing.T) {
	for year, want := range map[int]bool{
		2001: false, 2004: true, 2100: false, 2400: true, 4000: true, 1900: false, 2000: true,
		0: true, 4: true, 100: false, 400: true, -1: false, -4: true, -100: false, -400: true,
		math.MaxInt: false, math.MinInt: true,
	} {
		if got := Leap(year); got != want {
			t.Errorf("Leap(%d) = %v", year, got)
		}
	}
}

func TestP1_1AllDates(t *testing.T) {
	last := 0
	eachDate(func(n, year, month, day int) {
		last = n
		if got, err := Day(year, month, day); got != n || err != api.OK {
			t.Fatalf("Day(%d, %d, %d) = %d, %d; want %d", year, month, day, got, err, n)
		}
		if y, m, d, err := Date(n); y != year || m != month || d != day || err != api.OK {
			t.Fatalf("Date(%d) = %d, %d, %d, %d; want %d, %d, %d", n, y, m, d, err, year, month, day)
		}
		if got, err := Weekday(n); got != n%7 || err != api.OK {
			t.Fatalf("Weekday(%d) = %d, %d", n, got, err)
		}
	})
	if last != api.MaxDay {
		t.Errorf("the last day is %d", last)
	}
}

func TestP1_1NoDates(t *testing.T) {
	for _, c := range [][3]int{
		{2000, 12, 31}, {4001, 1, 1}, {0, 1, 1}, {-2001, 1, 1}, {math.MaxInt, 1, 1}, {math.MinInt, 1, 1},
		{2001, 0, 1}, {2001, 13, 1}, {2001, -1, 1}, {2001, math.MaxInt, 1}, {2001, math.MinInt, 1},
		{2001, 1, 0}, {2001, 1, 32}, {2001, 12, 32}, {2001, 4, 31}, {2001, 1, -1}, {2001, 1, math.MaxInt}, {2001, 1, math.MinInt},
		{2001, 2, 29}, {2100, 2, 29}, {2004, 2, 30}, {2400, 2, 30}, {4000, 2, 30},
	} {
		if n, err := Day(c[0], c[1], c[2]); n != 0 || err != ErrDate {
			t.Errorf("Day(%v) = %d, %d", c, n, err)
		}
	}
}

func TestP1_1DayErrors(t *testing.T) {
	for _, c := range dayErrors(api.MaxDay) {
		if y, m, d, err := Date(c.n); y != 0 || m != 0 || d != 0 || err != c.want {
			t.Errorf("Date(%d) = %d, %d, %d, %d", c.n, y, m, d, err)
		}
		if w, err := Weekday(c.n); w != 0 || err != c.want {
			t.Errorf("Weekday(%d) = %d, %d", c.n, w, err)
		}
	}
}

func TestP1_2Times(t *testing.T) {
	for _, c := range []struct{ day, minute, time int }{
		{0, 0, 0}, {0, 1439, 1439}, {1, 0, 1440}, {1, 1, 1441}, {59, 605, 85565},
		{api.MaxDay, 0, api.MaxTime - 1439}, {api.MaxDay, 1439, api.MaxTime},
	} {
		if got, err := Time(c.day, c.minute); got != c.time || err != api.OK {
			t.Errorf("Time(%d, %d) = %d, %d", c.day, c.minute, got, err)
		}
		if day, minute, err := Split(c.time); day != c.day || minute != c.minute || err != api.OK {
			t.Errorf("Split(%d) = %d, %d, %d", c.time, day, minute, err)
		}
	}
}

func TestP1_2TimeErrors(t *testing.T) {
	for _, c := range []struct {
		day, minute int
		want        api.Errno
	}{
		{-1, 0, api.ErrArg}, {math.MinInt, 0, api.ErrArg}, {0, -1, api.ErrArg}, {0, 1440, api.ErrArg},
		{0, math.MaxInt, api.ErrArg}, {0, math.MinInt, api.ErrArg},
		{api.MaxDay + 1, 0, api.ErrLong}, {math.MaxInt, 1439, api.ErrLong},
		{api.MaxDay + 1, -1, api.ErrArg}, {api.MaxDay + 1, 1440, api.ErrArg}, // the first error of both
	} {
		if n, err := Time(c.day, c.minute); n != 0 || err != c.want {
			t.Errorf("Time(%d, %d) = %d, %d", c.day, c.minute, n, err)
		}
	}
	for _, c := range dayErrors(api.MaxTime) {
		if d, m, err := Split(c.n); d != 0 || m != 0 || err != c.want {
			t.Errorf("Split(%d) = %d, %d, %d", c.n, d, m, err)
		}
	}
}

func TestP1_5Yearly(t *testing.T) {
	for _, c := range []struct {
		day, from, to int
		want          bool
	}{
		{59, 301, 301, true}, {59, 228, 301, true}, {59, 301, 1231, true}, {59, 101, 1231, true},
		{59, 302, 1231, false}, {59, 101, 228, false}, {59, 302, 302, false},
		// Over the new year.
		{364, 1201, 228, true}, {0, 1201, 228, true}, {57, 1201, 227, true}, {58, 1201, 227, false}, {58, 1201, 228, true}, {59, 1201, 228, false},
		{333, 1201, 228, false}, {334, 1201, 228, true}, {59, 302, 301, true}, {59, 302, 229, false}, {364, 1231, 101, true}, {1, 1231, 101, false},
		// The 29th of the second month.
		{1154, 229, 229, true}, {1154, 301, 228, false}, {1154, 301, 229, true}, {58, 229, 229, false}, {59, 229, 229, false},
		{api.MaxDay, 1231, 1231, true}, {api.MaxDay, 1130, 1230, false},
	} {
		if got, err := Yearly(c.day, c.from, c.to); got != c.want || err != api.OK {
			t.Errorf("Yearly(%d, %d, %d) = %v, %d", c.day, c.from, c.to, got, err)
		}
	}
}

func TestP1_5DaysOfTheYear(t *testing.T) {
	right := map[int]bool{229: true}
	for m, length := range lengths {
		for day := 1; day <= length; day++ {
			right[100*(m+1)+day] = true
		}
	}
	for n := -400; n <= 1700; n++ {
		want := ErrDate
		if right[n] {
			want = api.OK
		}
		if got, err := Yearly(0, n, 1231); err != want || got != (n == 101) {
			t.Errorf("Yearly(0, %d, 1231) = %v, %d", n, got, err)
		}
		if got, err := Yearly(0, 101, n); err != want || got != right[n] {
			t.Errorf("Yearly(0, 101, %d) = %v, %d", n, got, err)
		}
	}
}

func TestP1_5YearlyErrors(t *testing.T) {
	for _, n := range []int{math.MinInt, math.MaxInt} {
		if got, err := Yearly(0, n, n); got || err != ErrDate {
			t.Errorf("Yearly(0, %d, %d) = %v, %d", n, n, got, err)
		}
	}
	for _, c := range dayErrors(api.MaxDay) {
		for _, to := range []int{1231, 0} { // the errors of the day come first
			if got, err := Yearly(c.n, 101, to); got || err != c.want {
				t.Errorf("Yearly(%d, 101, %d) = %v, %d", c.n, to, got, err)
			}
		}
	}
}

func TestP1_6FourHundredYears(t *testing.T) {
	for year := 2001; year+400 <= 4000; year++ {
		a, _ := Day(year, 1, 1)
		b, _ := Day(year+400, 1, 1)
		if b-a != 146097 {
			t.Fatalf("400 years from %d on have %d days", year, b-a)
		}
		v, _ := Weekday(a)
		if w, _ := Weekday(b); v != w {
			t.Fatalf("400 years from %d on are no whole weeks", year)
		}
	}
}

// TestErrorNumbers pins the numbers, which programs that use the package may store or show.
func TestErrorNumbers(t *testing.T) {
	if ErrDate != 10 || ErrText != 11 {
		t.Error(ErrDate, ErrText)
	}
}
