package nat

import (
	"math/big"
	"regexp"
	"slices"
	"strings"
	"testing"

	"letterbag/api"
)

func TestP3_5ThereAndBack(t *testing.T) {
	all := append(short(), long()...)
	for n := range 3000 {
		all = append(all, Of(uint64(n)), Of(uint64(1e9-1500+n)), Of(uint64(1e18-1500+n)))
	}
	for n := int64(0); n <= 9864; n += 9864 / 36 { // among them 9864
		ten := new(big.Int).Exp(big.NewInt(10), big.NewInt(n), nil)
		all = append(all, limbsOf(ten), limbsOf(new(big.Int).Sub(ten, big.NewInt(1))))
	}
	for _, a := range all {
		want := value(a).String()
		if got, err := Text(a); got != want || err != api.OK {
			t.Fatalf("Text: %s, %d; want %s", got, err, want)
		}
		if got, err := Read(want); !slices.Equal(got, a) || err != api.OK {
			t.Fatalf("Read(%s) = %v, %d; want %v", want, got, err, a)
		}
	}
}

func TestP3_5NotRight(t *testing.T) {
	for _, a := range noNumbers() {
		if s, err := Text(a); s != "" || err != api.ErrArg {
			t.Errorf("Text(%v) = %q, %d", a, s, err)
		}
	}
}

func TestP3_5TooLong(t *testing.T) {
	greatest, _ := Text(full())
	next := value(power(MaxLimbs)).String()
	if len(greatest) != 9865 || len(next) != 9865 {
		t.Fatal(len(greatest), len(next))
	}
	if got, err := Read(greatest); !slices.Equal(got, full()) || err != api.OK {
		t.Error(len(got), err)
	}
	for _, s := range []string{next, strings.Repeat("9", 9865), "1" + strings.Repeat("0", 9865), strings.Repeat("7", 9866), greatest + "0", strings.Repeat("1234567890", 10000)} {
		if got, err := Read(s); len(got) != 0 || err != api.ErrLong {
			t.Errorf("a text of %d digits: %d limbs, %d", len(s), len(got), err)
		}
	}
	for _, s := range []string{"1" + strings.Repeat("0", 9863), strings.Repeat("9", 9864)} {
		want, _ := new(big.Int).SetString(s, 10)
		if got, err := Read(s); !slices.Equal(got, limbsOf(want)) || err != api.OK {
			t.Errorf("a text of %d digits: %d limbs, %d", len(s), len(got), err)
		}
	}
}

func TestP3_5NoTexts(t *testing.T) {
	digits := strings.Repeat("9", 9864)
	for _, s := range []string{
		"", "00", "007", "0000000000", "01", "-0", "-1", "+1", "+0", " 1", "1 ", "1\n", "\x001", "1\x00", "1_000", "1,000", "1.0", "1e3", "0x1", "x", "a1", "1a", "1a1", "12345678901234567x", "x12345678901234567", "123456789x123456789", "/", ":", "1/", "1:", "\xb1", "1\xff", "١", "¹", "NaN",
		"1234567890+123456789", "1234567890-123456789", "1234567890_123456789", "+123456789123456789", "123456789 123456789",
		// ErrText comes ahead of ErrLong.
		"0" + digits, digits + "x", digits + "x9", "x" + digits, digits + "99 ", "0" + digits + "9", strings.Repeat("9", 9866) + "x", "x" + strings.Repeat("9", 9866), "-" + strings.Repeat("9", 20000), strings.Repeat("0", 9866), strings.Repeat("x", 9866), "0" + strings.Repeat("9", 9865),
	} {
		if got, err := Read(s); len(got) != 0 || err != ErrText {
			t.Errorf("Read(%q) = %v, %d", s, got, err)
		}
	}
}

// TestP3_5AllShortTexts reads every string of a few bytes, and compares with the shape of a text.
func TestP3_5AllShortTexts(t *testing.T) {
	const letters = "0195-+ _x"
	shape := regexp.MustCompile(`^(0|[1-9][0-9]*)$`)
	var read func(s string)
	read = func(s string) {
		var want []uint32
		wantErr := ErrText
		if shape.MatchString(s) {
			n, _ := new(big.Int).SetString(s, 10)
			want, wantErr = limbsOf(n), api.OK
		}
		if got, err := Read(s); !slices.Equal(got, want) || err != wantErr {
			t.Fatalf("Read(%q) = %v, %d; want %v, %d", s, got, err, want, wantErr)
		}
		for i := 0; i < len(letters) && len(s) < 5; i++ {
			read(s + letters[i:i+1])
		}
	}
	read("")
}
