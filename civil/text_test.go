package civil

import (
	"fmt"
	"testing"

	"letterbag/api"
)

func TestP1_3AllTextsOfDates(t *testing.T) {
	last := ""
	eachDate(func(n, year, month, day int) {
		want := fmt.Sprintf("%04d-%02d-%02d", year, month, day)
		if got, err := Text(n); got != want || err != api.OK {
			t.Fatalf("Text(%d) = %q, %d; want %q", n, got, err, want)
		}
		if got, err := Read(want); got != n || err != api.OK {
			t.Fatalf("Read(%q) = %d, %d; want %d", want, got, err, n)
		}
		if want <= last { // P1.6: texts are in the order of days
			t.Fatalf("%q follows %q", want, last)
		}
		last = want
	})
}

func TestP1_3TextsOfTimes(t *testing.T) {
	for _, day := range []int{0, 59, 1154, api.MaxDay} {
		date, _ := Text(day)
		for minute := range api.DayMinutes {
			time := day*api.DayMinutes + minute
			want := fmt.Sprintf("%s %02d:%02d", date, minute/60, minute%60)
			if got, err := TimeText(time); got != want || err != api.OK {
				t.Fatalf("TimeText(%d) = %q, %d; want %q", time, got, err, want)
			}
			if got, err := ReadTime(want); got != time || err != api.OK {
				t.Fatalf("ReadTime(%q) = %d, %d; want %d", want, got, err, time)
			}
		}
	}
}

func TestP1_3TextErrors(t *testing.T) {
	for _, c := range dayErrors(api.MaxDay) {
		if s, err := Text(c.n); s != "" || err != c.want {
			t.Errorf("Text(%d) = %q, %d", c.n, s, err)
		}
	}
	for _, c := range dayErrors(api.MaxTime) {
		if s, err := TimeText(c.n); s != "" || err != c.want {
			t.Errorf("TimeText(%d) = %q, %d", c.n, s, err)
		}
	}
}

func TestP1_3NoTextsOfDates(t *testing.T) {
	for _, s := range []string{
		"", "2001", "2001-01-0", "2001-01-011", "2001-1-01", "2001-01-1", "02001-01-01", "201-01-001",
		"2001/01-01", "2001-01/01", "2001-01 01", " 2001-01-0", "2001-01-01 ", "2001-01-01\x00", "2001-01-01 00:00",
		"+201-01-01", "-201-01-01", "2001-+1-01", "2001-01--1", "20x1-01-01", "2001-0x-01", "2001-01-0x", "2001-01-:1", "2001-01-/1", "200\xb1-01-01",
		"2000-12-31", "4001-01-01", "0000-00-00", "2001-00-01", "2001-13-01", "2001-01-00", "2001-01-32", "2001-02-29", "2100-02-29", "2004-02-30",
	} {
		if n, err := Read(s); n != 0 || err != ErrText {
			t.Errorf("Read(%q) = %d, %d", s, n, err)
		}
		if n, err := ReadTime(s + " 00:00"); n != 0 || err != ErrText {
			t.Errorf("ReadTime(%q) = %d, %d", s+" 00:00", n, err)
		}
	}
}

func TestP1_3NoTextsOfTimes(t *testing.T) {
	for _, s := range []string{
		"", "2001-01-01", "00:00", "2001-01-01 00:0", "2001-01-01 00:000", "2001-01-01 0:00", "2001-01-01 0:000", "2001-01-01 00:00 ",
		"2001-01-01T00:00", "2001-01-01-00:00", "2001-01-01 00 00", "2001-01-01 00-00", "2001-01-01 0000", "2001-01-01  0:00",
		"2001-01-01 24:00", "2001-01-01 99:00", "2001-01-01 23:60", "2001-01-01 00:99",
		"2001-01-01 -1:00", "2001-01-01 00:-1", "2001-01-01 +1:00", "2001-01-01 0x:00", "2001-01-01 00:0x",
	} {
		if n, err := ReadTime(s); n != 0 || err != ErrText {
			t.Errorf("ReadTime(%q) = %d, %d", s, n, err)
		}
	}
}
