package nat

import (
	"encoding/binary"
	"math"
	"math/big"
	"slices"
	"testing"

	"letterbag/api"
)

// value returns the value of limbs.
func value(a []uint32) *big.Int {
	var bytes []byte
	for _, limb := range slices.Backward(a) {
		bytes = binary.BigEndian.AppendUint32(bytes, limb)
	}
	return new(big.Int).SetBytes(bytes)
}

// limbsOf returns the limbs of a value.
func limbsOf(n *big.Int) []uint32 {
	limbs := make([]uint32, (n.BitLen()+31)/32)
	bytes := n.FillBytes(make([]byte, 4*len(limbs)))
	for i := range limbs {
		limbs[len(limbs)-1-i] = binary.BigEndian.Uint32(bytes[4*i:])
	}
	return limbs
}

// repeated returns limbs that are all the same.
func repeated(limb uint32, count int) []uint32 {
	return slices.Repeat([]uint32{limb}, count)
}

// power returns 2^32 to the power n.
func power(n int) []uint32 {
	return append(repeated(0, n), 1)
}

// scattered returns limbs without a pattern, always the same ones for the same seed.
func scattered(count int, seed uint64) []uint32 {
	limbs := make([]uint32, count)
	for i := range limbs {
		seed = seed*6364136223846793005 + 1442695040888963407
		limbs[i] = uint32(seed>>33) | 1
	}
	return limbs
}

// highest is the highest value of a limb.
const highest = math.MaxUint32

// full returns the greatest natural number.
func full() []uint32 {
	return repeated(highest, MaxLimbs)
}

// short returns all numbers of up to three limbs that are near the limits of a limb, or of half of it.
func short() [][]uint32 {
	edges := []uint32{0, 1, 2, 1 << 16, 1<<31 - 1, 1 << 31, highest - 1, highest}
	all := [][]uint32{{}}
	for _, low := range edges {
		all = append(all, []uint32{low})
		for _, middle := range edges {
			all = append(all, []uint32{low, middle})
			for _, high := range []uint32{1, 1 << 31, highest} {
				all = append(all, []uint32{low, middle, high})
			}
		}
	}
	return slices.DeleteFunc(all, func(a []uint32) bool { return len(a) > 0 && a[len(a)-1] == 0 })
}

// long returns numbers of many limbs, with those at the limit.
func long() [][]uint32 {
	all := [][]uint32{nil, {1}, {7}, {1000000000}, {highest}, {0, 1}, scattered(2, 5), scattered(5, 6), scattered(40, 7), scattered(41, 8)}
	for _, n := range []int{3, 39, 40, 300, MaxLimbs/2 - 1, MaxLimbs / 2, MaxLimbs - 2, MaxLimbs - 1} {
		below, above := power(n), power(n)
		above[0] = 1
		below[n] = highest
		all = append(all, power(n), repeated(highest, n), repeated(1, n), above, below, scattered(n, uint64(n)))
	}
	return append(all, full(), repeated(1, MaxLimbs), scattered(MaxLimbs, 9), scattered(MaxLimbs, 10))
}

// noNumbers are limbs that are no natural numbers.
func noNumbers() [][]uint32 {
	return [][]uint32{
		{0}, {0, 0}, {5, 0}, {0, 1, 0}, {highest, highest, 0, 0}, repeated(0, MaxLimbs), append(full()[:MaxLimbs-1], 0),
		power(MaxLimbs), repeated(1, MaxLimbs+1), append(full(), 0), repeated(0, MaxLimbs+1), repeated(highest, 3*MaxLimbs),
	}
}

// check reports what a function should have returned.
func check(t *testing.T, name string, a, b, got []uint32, err api.Errno, want *big.Int) {
	t.Helper()
	wanted, wantErr := limbsOf(want), api.OK
	if len(wanted) > MaxLimbs {
		wanted, wantErr = nil, api.ErrLong
	}
	if !slices.Equal(got, wanted) || err != wantErr {
		t.Fatalf("%s of %v and %v: %v, %d; want %v, %d", name, value(a), value(b), got, err, wanted, wantErr)
	}
}

// everyPair calls a function with all pairs of short numbers, and all of long ones.
func everyPair(call func(a, b []uint32)) {
	for _, list := range [][][]uint32{short(), long()} {
		for _, a := range list {
			for _, b := range list {
				call(a, b)
			}
		}
	}
}

func TestP3_1Right(t *testing.T) {
	for _, a := range append(short(), long()...) {
		if !Right(a) {
			t.Errorf("%v is not right", a)
		}
	}
	for _, a := range noNumbers() {
		if Right(a) {
			t.Errorf("%v is right", a)
		}
	}
}

func TestP3_1OfUint(t *testing.T) {
	for _, c := range []struct {
		n    uint64
		want []uint32
	}{
		{0, nil}, {1, []uint32{1}}, {77, []uint32{77}}, {highest, []uint32{highest}}, {1 << 32, []uint32{0, 1}}, {1<<32 + 5, []uint32{5, 1}},
		{math.MaxInt64, []uint32{highest, math.MaxInt32}}, {1 << 63, []uint32{0, 1 << 31}}, {math.MaxUint64 - 1, []uint32{highest - 1, highest}}, {math.MaxUint64, []uint32{highest, highest}},
	} {
		if got := Of(c.n); !slices.Equal(got, c.want) {
			t.Errorf("Of(%d) = %v; want %v", c.n, got, c.want)
		}
		if n, ok := Uint(c.want); n != c.n || !ok {
			t.Errorf("Uint(%v) = %d, %v; want %d", c.want, n, ok, c.n)
		}
	}
	if n, ok := Uint([]uint32{}); n != 0 || !ok {
		t.Errorf("Uint of no limbs = %d, %v", n, ok)
	}
}

func TestP3_1UintTooLong(t *testing.T) {
	for _, a := range append(noNumbers(), []uint32{0, 0, 1}, []uint32{5, 6, 7}, repeated(highest, 3), power(40), full()) {
		if n, ok := Uint(a); n != 0 || ok {
			t.Errorf("Uint(%v) = %d, %v", a, n, ok)
		}
	}
}

func TestP3_2Cmp(t *testing.T) {
	everyPair(func(a, b []uint32) {
		if got, err := Cmp(a, b); got != value(a).Cmp(value(b)) || err != api.OK {
			t.Fatalf("Cmp(%v, %v) = %d, %d", a, b, got, err)
		}
	})
}

func TestP3_2Add(t *testing.T) {
	everyPair(func(a, b []uint32) {
		got, err := Add(a, b)
		check(t, "Add", a, b, got, err, new(big.Int).Add(value(a), value(b)))
	})
}

func TestP3_2Sub(t *testing.T) {
	everyPair(func(a, b []uint32) {
		got, err := Sub(a, b)
		want := new(big.Int).Sub(value(a), value(b))
		if want.Sign() >= 0 {
			check(t, "Sub", a, b, got, err, want)
		} else if len(got) != 0 || err != api.ErrArg {
			t.Fatalf("Sub(%v, %v) = %v, %d", a, b, got, err)
		}
	})
}

func TestP3_2Mul(t *testing.T) {
	everyPair(func(a, b []uint32) {
		got, err := Mul(a, b)
		check(t, "Mul", a, b, got, err, new(big.Int).Mul(value(a), value(b)))
	})
}

func TestP3_2Carries(t *testing.T) {
	one, ones := []uint32{1}, repeated(highest, MaxLimbs-1)
	top := power(MaxLimbs - 1)
	if got, err := Add(ones, one); !slices.Equal(got, top) || err != api.OK {
		t.Error("a carry over all limbs is lost", err)
	}
	if got, err := Sub(top, one); !slices.Equal(got, ones) || err != api.OK {
		t.Error("a borrow over all limbs is lost", err)
	}
	if got, err := Sub(top, top); len(got) != 0 || err != api.OK {
		t.Error("nothing should be left", err)
	}
	square, err := Mul(repeated(highest, MaxLimbs/2), repeated(highest, MaxLimbs/2)) // (x - 1)^2 = (x - 2) x + 1
	want := append(append([]uint32{1}, repeated(0, MaxLimbs/2-1)...), append([]uint32{highest - 1}, repeated(highest, MaxLimbs/2-1)...)...)
	if !slices.Equal(square, want) || err != api.OK {
		t.Error("the carries of a product are lost", err)
	}
}

func TestP3_2TooLong(t *testing.T) {
	half := power(MaxLimbs / 2)
	for i, c := range []struct {
		call func(a, b []uint32) ([]uint32, api.Errno)
		a, b []uint32
		err  api.Errno
	}{
		{Add, full(), nil, api.OK}, {Add, full(), []uint32{1}, api.ErrLong}, {Add, []uint32{1}, full(), api.ErrLong}, {Add, full(), full(), api.ErrLong},
		{Add, full()[:MaxLimbs-1], []uint32{1}, api.OK}, {Add, append(repeated(0, MaxLimbs-1), highest), power(MaxLimbs - 1), api.ErrLong}, {Add, append(repeated(0, MaxLimbs-1), highest-1), power(MaxLimbs - 1), api.OK},
		{Mul, full(), []uint32{1}, api.OK}, {Mul, full(), []uint32{2}, api.ErrLong}, {Mul, []uint32{2}, full(), api.ErrLong}, {Mul, full(), full(), api.ErrLong}, {Mul, full(), nil, api.OK}, {Mul, nil, full(), api.OK},
		{Mul, half, half, api.ErrLong}, {Mul, half, power(MaxLimbs/2 - 1), api.OK}, {Mul, half, half[1:], api.OK}, {Mul, half, repeated(highest, MaxLimbs/2), api.OK}, {Mul, append(repeated(0, MaxLimbs/2), 2), append(repeated(0, MaxLimbs/2-1), 1<<31), api.ErrLong},
		{Mul, append(repeated(0, MaxLimbs/2), 2), append(repeated(0, MaxLimbs/2-1), 1<<31-1), api.OK},
	} {
		if got, err := c.call(c.a, c.b); err != c.err || err != api.OK && len(got) != 0 || len(got) > MaxLimbs {
			t.Errorf("%d: %d limbs, %d", i, len(got), err)
		}
	}
}

func TestP3_2NotRight(t *testing.T) {
	for _, bad := range noNumbers() {
		for _, other := range append(noNumbers(), nil, []uint32{1}, []uint32{highest, highest}, full()) { // ErrArg comes ahead of ErrLong
			for _, c := range [][2][]uint32{{bad, other}, {other, bad}} {
				if order, err := Cmp(c[0], c[1]); order != 0 || err != api.ErrArg {
					t.Errorf("Cmp: %d, %d", order, err)
				}
				for i, call := range []func(a, b []uint32) ([]uint32, api.Errno){Add, Sub, Mul} {
					if got, err := call(c[0], c[1]); len(got) != 0 || err != api.ErrArg {
						t.Errorf("function %d: %v, %d", i, got, err)
					}
				}
			}
		}
	}
}

// numberedPower is a power by its definition, or the first product on the way that is too long.
func numberedPower(a []uint32, n int) *big.Int {
	product, limit := big.NewInt(1), value(power(MaxLimbs))
	for i := 0; i < n && product.Cmp(limit) < 0; i++ {
		product.Mul(product, value(a))
	}
	return product
}

func TestP3_4Pow(t *testing.T) {
	for _, a := range append(short(), long()...) {
		for _, n := range []int{0, 1, 2, 3, 4, 5, 7, 8, 13, 31, 64, 100} {
			got, err := Pow(a, n)
			check(t, "Pow", a, Of(uint64(n)), got, err, numberedPower(a, n))
		}
	}
	for n := range 300 {
		for _, a := range [][]uint32{{2}, {3}, {10}, {1, 1}} {
			got, err := Pow(a, n)
			check(t, "Pow", a, Of(uint64(n)), got, err, numberedPower(a, n))
		}
	}
}

func TestP3_4Limits(t *testing.T) {
	for _, n := range []int{1, 2, 1000, 1<<31 - 1, 1 << 62, math.MaxInt} {
		if got, err := Pow(nil, n); len(got) != 0 || err != api.OK {
			t.Errorf("0 to the power %d is %v, %d", n, got, err)
		}
		if got, err := Pow([]uint32{1}, n); !slices.Equal(got, []uint32{1}) || err != api.OK {
			t.Errorf("1 to the power %d is %v, %d", n, got, err)
		}
		if got, err := Pow(full(), n); n > 1 && (len(got) != 0 || err != api.ErrLong) {
			t.Errorf("the power %d is %v, %d", n, got, err)
		}
	}
	for _, c := range []struct {
		a         []uint32
		last, too int // the last power that has no more than MaxLimbs limbs
	}{{[]uint32{2}, 32*MaxLimbs - 1, 32 * MaxLimbs}, {[]uint32{10}, 9864, 9865}, {[]uint32{0, 1}, MaxLimbs - 1, MaxLimbs}, {[]uint32{highest}, MaxLimbs, MaxLimbs + 1}, {power(31), 33, 34}, {repeated(highest, 32), 32, 33}, {full(), 1, 2}} {
		got, err := Pow(c.a, c.last)
		check(t, "Pow", c.a, nil, got, err, numberedPower(c.a, c.last))
		if err != api.OK {
			t.Errorf("the power %d is too long", c.last)
		}
		for _, n := range []int{c.too, 2 * c.too, 1 << 40, math.MaxInt} {
			if got, err := Pow(c.a, n); len(got) != 0 || err != api.ErrLong {
				t.Errorf("the power %d is %v, %d", n, got, err)
			}
		}
	}
}

func TestP3_4Errors(t *testing.T) {
	for _, n := range []int{-1, -2, math.MinInt} {
		for _, a := range [][]uint32{nil, {1}, {2}, full(), {0}} {
			if got, err := Pow(a, n); len(got) != 0 || err != api.ErrArg {
				t.Errorf("Pow(%v, %d) = %v, %d", a, n, got, err)
			}
		}
	}
	for _, a := range noNumbers() {
		for _, n := range []int{0, 1, 2, 5000, math.MaxInt} { // ErrArg comes ahead of ErrLong
			if got, err := Pow(a, n); len(got) != 0 || err != api.ErrArg {
				t.Errorf("Pow(%v, %d) = %v, %d", a, n, got, err)
			}
		}
	}
}

func TestExamples(t *testing.T) {
	a := Of(1 << 32)
	product, _ := Mul(a, a)
	text, _ := Text(product)
	quotient, rest, _ := DivMod(product, []uint32{10})
	quotientText, _ := Text(quotient)
	restText, _ := Text(rest)
	ten, _ := Pow([]uint32{10}, 20)
	tenText, _ := Text(ten)
	if !slices.Equal(a, []uint32{0, 1}) || !slices.Equal(product, []uint32{0, 0, 1}) || text != "18446744073709551616" {
		t.Error(a, product, text)
	}
	if quotientText != "1844674407370955161" || restText != "6" || tenText != "100000000000000000000" {
		t.Error(quotientText, restText, tenText)
	}
	if none, err := Sub(Of(1), Of(2)); len(none) != 0 || err != api.ErrArg {
		t.Error(none, err)
	}
	if one, err := Pow(nil, 0); !slices.Equal(one, []uint32{1}) || err != api.OK {
		t.Error(one, err)
	}
}

// TestNumbers pins the numbers that programs which use the package may store or show.
func TestNumbers(t *testing.T) {
	if ErrText != 30 || MaxLimbs != 1024 {
		t.Error(ErrText, MaxLimbs)
	}
}
