package edit

import (
	"math"
	"strings"
	"testing"

	"letterbag/api"
)

func TestP6_1Right(t *testing.T) {
	for _, c := range costLists {
		if !Right(c) {
			t.Errorf("Right(%v) = false", c)
		}
	}
	for _, c := range noCosts() {
		if Right(c) {
			t.Errorf("Right(%v) = true", c)
		}
	}
}

func TestP6_1RightOfEachCostAlone(t *testing.T) {
	for n, want := range map[int]bool{math.MinInt: false, -1: false, 0: false, 1: true, 2: true, 500: true, 999: true, 1000: true, 1001: false, math.MaxInt: false} {
		for _, other := range []int{1, 7, 1000} {
			for _, c := range []Costs{{n, other, other, other}, {other, n, other, other}, {other, other, n, other}, {other, other, other, n}} {
				if Right(c) != want {
					t.Errorf("Right(%v) = %t", c, !want)
				}
				if _, err := Distance("AB", "BC", c); (err == api.OK) != want {
					t.Errorf("Distance with %v: %d", c, err)
				}
			}
		}
	}
}

func TestP6_1Distance(t *testing.T) {
	long, other := strings.Repeat("A", MaxText), strings.Repeat("B", MaxText)
	for _, x := range []struct {
		a, b string
		c    Costs
		want int
	}{
		{"ROAD", "RAOD", even, 1}, {"MAIN", "MAINE", even, 1}, {"AB", "", even, 2}, {"CA", "ABC", even, 3}, {"A", "B", Costs{1, 1, 3, 1}, 2},
		// The empty text, and texts of one byte.
		{"", "", even, 0}, {"", "A", Costs{3, 5, 7, 9}, 3}, {"A", "", Costs{3, 5, 7, 9}, 5}, {"", "ABC", Costs{3, 5, 7, 9}, 9}, {"ABC", "", Costs{3, 5, 7, 9}, 15},
		{"A", "A", even, 0}, {"A", "B", even, 1}, {"A", "B", Costs{3, 5, 7, 9}, 7}, {"A", "B", Costs{3, 5, 8, 9}, 8}, {"A", "B", Costs{3, 5, 9, 9}, 8}, {"a", "A", even, 1},
		// Equal texts, and equal bytes side by side.
		{"MAIN STREET", "MAIN STREET", Costs{1000, 1000, 1000, 1000}, 0}, {long, long, even, 0}, {"AA", "A", even, 1}, {"AAAA", "AA", Costs{1, 4, 1, 1}, 8}, {"AABB", "ABAB", even, 1}, {"AABB", "BBAA", even, 3},
		// Two bytes exchanged.
		{"AB", "BA", Costs{1000, 1000, 1000, 5}, 5}, {"AB", "BA", Costs{1000, 1000, 1, 5}, 2}, {"AB", "BA", Costs{2, 1, 1000, 5}, 3}, {"AB", "BA", Costs{1000, 1000, 3, 6}, 6},
		{"ABCD", "BADC", even, 2}, {"ABC", "CBA", even, 2}, {"ABC", "BCA", even, 2}, {"ABAB", "BABA", even, 2}, {"AXB", "BXA", Costs{9, 9, 5, 1}, 10},
		// A byte that was exchanged is not treated again.
		{"CA", "ABC", Costs{2, 2, 3, 1}, 6}, {"AB", "BCA", even, 3}, {"BA", "ACB", even, 3}, {"AB", "CB", even, 1}, {"CA", "AC", even, 1}, {"AC", "ABC", even, 1},
		// Any bytes.
		{"\x00", "", even, 1}, {"", "\x00", even, 1}, {"\x00", "\xFF", even, 1}, {"\x00\xFF", "\xFF\x00", even, 1}, {"\x00\x00", "\x00", even, 1}, {"\u00DC", "U", even, 2}, {"\xC3\x9C", "\x9C\xC3", even, 1},
		// Texts of MaxText bytes.
		{long, other, even, 60}, {long, other, Costs{1000, 1000, 1000, 1000}, 60000}, {long, other, Costs{300, 400, 1000, 1000}, 42000}, {long, "", even, 60}, {"", long, Costs{1000, 1, 1, 1}, 60000},
		{strings.Repeat("AB", 30), strings.Repeat("BA", 30), even, 2}, {strings.Repeat("AB", 30), strings.Repeat("BA", 30), Costs{1000, 1000, 1000, 7}, 210},
		{long[1:] + "B", "B" + long[1:], even, 2}, {long[1:], long, even, 1},
	} {
		if got, err := Distance(x.a, x.b, x.c); got != x.want || err != api.OK {
			t.Errorf("Distance(%q, %q, %v) = %d, %d; want %d", x.a, x.b, x.c, got, err, x.want)
		}
	}
}

// TestP6_1DistanceOfEveryByte has all bytes: no two of them are the same one.
func TestP6_1DistanceOfEveryByte(t *testing.T) {
	for x := range 256 {
		for y := range 256 {
			a, b := string([]byte{byte(x)}), string([]byte{byte(y)})
			want := 7
			if x == y {
				want = 0
			}
			if got, err := Distance(a, b, Costs{5, 5, 7, 3}); got != want || err != api.OK {
				t.Fatalf("Distance(%q, %q) = %d, %d", a, b, got, err)
			}
			if got, err := Distance(a+b, b+a, Costs{5, 5, 7, 3}); got != want*3/7 || err != api.OK {
				t.Fatalf("Distance(%q, %q) = %d, %d", a+b, b+a, got, err)
			}
		}
	}
}

func TestP6_1DistancesOfLongTexts(t *testing.T) {
	for _, p := range pairs() {
		for _, c := range costLists {
			want := counted(p.a, p.b, c)
			if got, err := Distance(p.a, p.b, c); got != want || err != api.OK {
				t.Fatalf("Distance(%q, %q, %v) = %d, %d; want %d", p.a, p.b, c, got, err, want)
			}
		}
	}
}

// errorCase is what the functions of two texts get, and their error.
type errorCase struct {
	a, b string
	c    Costs
	err  api.Errno
}

// errorCases are errors, and the first one of two.
func errorCases() []errorCase {
	full, long, far := strings.Repeat("A", MaxText), strings.Repeat("A", MaxText+1), strings.Repeat("B", 100000)
	list := []errorCase{
		{full, full, even, api.OK}, {full, "", even, api.OK}, {"", full, even, api.OK},
		{long, "A", even, api.ErrLong}, {"A", long, even, api.ErrLong}, {long, long, even, api.ErrLong}, {long, "", even, api.ErrLong}, {"", long, even, api.ErrLong}, {long, full, even, api.ErrLong}, {full, long, even, api.ErrLong},
		{far, "A", even, api.ErrLong}, {"A", far, even, api.ErrLong}, {far, far, even, api.ErrLong},
	}
	for _, c := range noCosts() {
		for _, p := range []pair{{"A", "B"}, {"", ""}, {"A", "A"}, {long, "A"}, {"A", long}, {long, long}} {
			list = append(list, errorCase{p.a, p.b, c, api.ErrArg})
		}
	}
	return list
}

func TestP6_1Errors(t *testing.T) {
	for _, x := range errorCases() {
		if got, err := Distance(x.a, x.b, x.c); err != x.err || err != api.OK && got != 0 {
			t.Errorf("Distance of %d and %d bytes with %v = %d, %d; want the error %d", len(x.a), len(x.b), x.c, got, err, x.err)
		}
	}
}

func TestP6_2Within(t *testing.T) {
	for _, x := range []struct {
		a, b string
		c    Costs
		most int
		want int
		is   bool
	}{
		{"MAIN", "MINE", even, 1, 0, false}, {"MAIN", "MINE", even, 2, 2, true}, {"MAIN", "MINE", even, 3, 2, true},
		{"", "", even, 0, 0, true}, {"", "", even, -1, 0, false}, {"MAIN", "MAIN", even, 0, 0, true}, {"MAIN", "MAIN", even, -1, 0, false}, {"MAIN", "MAIN", even, math.MinInt, 0, false},
		{"A", "B", even, 0, 0, false}, {"A", "B", even, 1, 1, true}, {"A", "B", even, math.MaxInt, 1, true}, {"A", "B", even, math.MinInt, 0, false},
		{"", "ABC", Costs{1000, 1, 1, 1}, 2999, 0, false}, {"", "ABC", Costs{1000, 1, 1, 1}, 3000, 3000, true}, {"", "ABC", Costs{1000, 1, 1, 1}, 3001, 3000, true},
	} {
		if got, is, err := Within(x.a, x.b, x.c, x.most); got != x.want || is != x.is || err != api.OK {
			t.Errorf("Within(%q, %q, %v, %d) = %d, %t, %d; want %d, %t", x.a, x.b, x.c, x.most, got, is, err, x.want, x.is)
		}
	}
}

func TestP6_2WithinAroundTheDistance(t *testing.T) {
	for _, p := range pairs() {
		for _, c := range costLists[:8] {
			distance := counted(p.a, p.b, c)
			for _, most := range []int{math.MinInt, -distance, -1, 0, distance - 1, distance, distance + 1, 2 * distance, math.MaxInt} {
				want, is := 0, distance <= most
				if is {
					want = distance
				}
				if got, ok, err := Within(p.a, p.b, c, most); got != want || ok != is || err != api.OK {
					t.Fatalf("Within(%q, %q, %v, %d) = %d, %t, %d; want %d, %t", p.a, p.b, c, most, got, ok, err, want, is)
				}
			}
		}
	}
}

func TestP6_2Errors(t *testing.T) {
	for _, x := range errorCases() {
		for _, most := range []int{math.MinInt, -1, 0, 1, 1000000, math.MaxInt} {
			got, is, err := Within(x.a, x.b, x.c, most)
			if err != x.err || err != api.OK && (got != 0 || is) {
				t.Errorf("Within of %d and %d bytes with %v, %d = %d, %t, %d; want the error %d", len(x.a), len(x.b), x.c, most, got, is, err, x.err)
			}
		}
	}
}
