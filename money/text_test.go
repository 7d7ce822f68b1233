package money

import (
	"fmt"
	"regexp"
	"strconv"
	"strings"
	"testing"

	"letterbag/api"
)

func TestP2_4Texts(t *testing.T) {
	for _, c := range []struct {
		cents int
		text  string
	}{
		{0, "0.00"}, {1, "0.01"}, {-1, "-0.01"}, {-5, "-0.05"}, {9, "0.09"}, {10, "0.10"}, {-10, "-0.10"}, {99, "0.99"}, {-99, "-0.99"},
		{100, "1.00"}, {-100, "-1.00"}, {101, "1.01"}, {110, "1.10"}, {1000, "10.00"}, {123456, "1234.56"}, {-123456, "-1234.56"},
		{MaxCents, "10000000000000.00"}, {-MaxCents, "-10000000000000.00"}, {MaxCents - 1, "9999999999999.99"}, {-MaxCents + 1, "-9999999999999.99"},
	} {
		if got, err := Text(c.cents); got != c.text || err != api.OK {
			t.Errorf("Text(%d) = %q, %d; want %q", c.cents, got, err, c.text)
		}
		if got, err := Read(c.text); got != c.cents || err != api.OK {
			t.Errorf("Read(%q) = %d, %d; want %d", c.text, got, err, c.cents)
		}
	}
}

func TestP2_4ThereAndBack(t *testing.T) {
	for cents := -12000; cents <= 12000; cents++ {
		sign := ""
		if cents < 0 {
			sign = "-"
		}
		want := fmt.Sprintf("%s%d.%02d", sign, max(cents, -cents)/100, max(cents, -cents)%100)
		if got, err := Text(cents); got != want || err != api.OK {
			t.Fatalf("Text(%d) = %q, %d; want %q", cents, got, err, want)
		}
		if got, err := Read(want); got != cents || err != api.OK {
			t.Fatalf("Read(%q) = %d, %d", want, got, err)
		}
	}
}

func TestP2_4NoAmounts(t *testing.T) {
	for _, n := range noAmounts {
		if got, err := Text(n); got != "" || err != api.ErrArg {
			t.Errorf("Text(%d) = %q, %d", n, got, err)
		}
	}
}

func TestP2_4NoTexts(t *testing.T) {
	for _, s := range []string{
		"", ".", "-", "-.", "0", "5", "00", "000", "-000", "100", ".00", ".05", "-.05", "0.", "1.", "0.0", "1.5", "1.000", "0.000", "1.005", "..00", "1..00", "1.0.0", "1.00.", ".1.00", "12.3.4", "100.", "10.0.",
		"00.00", "007.00", "01.00", "-00.01", "-007.00", "-0.00", "+0.00", "+1.00", "+-1.00", "-+1.00", "--1.00", "1.-1", "1.+1", "-1.-1", "1.0-", "1.00-",
		"0,00", "1,00", "1:00", "0 00", " 0.00", "0.00 ", "1. 5", "1.0\x00", "\x000.00", "0.00\n", "a.00", "1.a0", "1.0a", "0x1.00", "1e2.00", "1_000.00", "1.0_", "\xb1.00", "١.00", "NaN", "Inf",
		"10000000000000.01", "-10000000000000.01", "10000000000001.00", "-10000000000001.00", "20000000000000.00", "-20000000000000.00", "99999999999999.99", "-99999999999999.99", "100000000000000.00",
		"92233720368547758.07", "92233720368547758.08", "-92233720368547758.08", "184467440737095516.16", "184467440737095517.16", "-184467440737095517.16", "99999999999999999999999999.99",
		"0.00" + fmt.Sprintf("%01000d", 0), fmt.Sprintf("%01000d", 0) + "0.00",
	} {
		if n, err := Read(s); n != 0 || err != ErrText {
			t.Errorf("Read(%q) = %d, %d", s, n, err)
		}
	}
}

// TestP2_4AllShortTexts reads every string of a few bytes, and compares with the shape of a text.
func TestP2_4AllShortTexts(t *testing.T) {
	const letters = "-+.015x"
	shape := regexp.MustCompile(`^-?(0|[1-9][0-9]*)\.[0-9][0-9]$`)
	var check func(s string)
	check = func(s string) {
		want, wantErr := 0, ErrText
		if shape.MatchString(s) && s != "-0.00" {
			want, _ = strconv.Atoi(strings.Replace(s, ".", "", 1))
			wantErr = api.OK
		}
		if got, err := Read(s); got != want || err != wantErr {
			t.Fatalf("Read(%q) = %d, %d; want %d, %d", s, got, err, want, wantErr)
		}
		for i := 0; i < len(letters) && len(s) < 6; i++ {
			check(s + letters[i:i+1])
		}
	}
	check("")
}
