package nat

import (
	"math/big"
	"slices"
	"testing"

	"letterbag/api"
)

// checkDivision compares a division with an exact one.
func checkDivision(t *testing.T, a, b []uint32) {
	t.Helper()
	quotient, rest, err := DivMod(a, b)
	wantQuotient, wantRest := new(big.Int).DivMod(value(a), value(b), new(big.Int))
	if !slices.Equal(quotient, limbsOf(wantQuotient)) || !slices.Equal(rest, limbsOf(wantRest)) || err != api.OK {
		t.Fatalf("%v by %v: %v, %v, %d; want %v, %v", a, b, quotient, rest, err, limbsOf(wantQuotient), limbsOf(wantRest))
	}
}

func TestP3_3DivMod(t *testing.T) {
	everyPair(func(a, b []uint32) {
		if len(b) > 0 {
			checkDivision(t, a, b)
		}
	})
}

// TestP3_3NearMultiples divides numbers next to multiples, where a limb of the quotient is easily taken for one that is 1 or 2 too great.
func TestP3_3NearMultiples(t *testing.T) {
	one := big.NewInt(1)
	for _, b := range append(short()[1:], scattered(7, 3), repeated(highest, 20), power(20), append(repeated(highest, 20), 1), append(repeated(highest, 20), 1<<31)) {
		for _, factor := range append(short()[1:], scattered(9, 4), repeated(highest, 30), power(30)) {
			multiple := new(big.Int).Mul(value(b), value(factor))
			checkDivision(t, limbsOf(multiple), b)
			checkDivision(t, limbsOf(multiple.Sub(multiple, one)), b)
		}
	}
}

// TestP3_3QuotientOfTwoLess has a divisor of which the highest limb alone makes a limb of the quotient 2 too great.
func TestP3_3QuotientOfTwoLess(t *testing.T) {
	for _, low := range []uint32{highest, highest - 1, 1 << 31} {
		b := []uint32{low, 1 << 31}
		for _, high := range []uint32{1<<31 - 1, 1 << 31, 1, highest} {
			for _, next := range []uint32{0, 1, highest} {
				checkDivision(t, []uint32{0, next, high}, b)
				checkDivision(t, []uint32{highest, 0, next, high}, b)
			}
		}
	}
}

func TestP3_3Shapes(t *testing.T) {
	for _, c := range []struct{ a, b, quotient, rest []uint32 }{
		{nil, []uint32{1}, nil, nil}, {nil, full(), nil, nil}, {[]uint32{}, []uint32{5}, nil, nil},
		{[]uint32{7}, []uint32{1}, []uint32{7}, nil}, {[]uint32{7}, []uint32{7}, []uint32{1}, nil}, {[]uint32{7}, []uint32{8}, nil, []uint32{7}}, {[]uint32{7}, []uint32{2}, []uint32{3}, []uint32{1}},
		{[]uint32{5}, []uint32{0, 1}, nil, []uint32{5}}, {[]uint32{5, 1}, []uint32{6, 1}, nil, []uint32{5, 1}}, {[]uint32{0, 0, 1}, []uint32{0, 1}, []uint32{0, 1}, nil},
		{full(), full(), []uint32{1}, nil}, {full(), []uint32{1}, full(), nil}, {full(), []uint32{highest}, repeated(1, MaxLimbs), nil}, {full(), repeated(1, MaxLimbs), []uint32{highest}, nil},
		{full()[1:], full(), nil, full()[1:]}, {power(MaxLimbs - 1), []uint32{0, 1}, power(MaxLimbs - 2), nil}, {power(MaxLimbs - 1), full()[1:], []uint32{1}, []uint32{1}},
	} {
		quotient, rest, err := DivMod(c.a, c.b)
		if !slices.Equal(quotient, c.quotient) || !slices.Equal(rest, c.rest) || err != api.OK {
			t.Errorf("%v by %v: %v, %v, %d", c.a, c.b, quotient, rest, err)
		}
	}
}

func TestP3_3Errors(t *testing.T) {
	fails := func(a, b []uint32) {
		t.Helper()
		if quotient, rest, err := DivMod(a, b); len(quotient) != 0 || len(rest) != 0 || err != api.ErrArg {
			t.Errorf("%v by %v: %v, %v, %d", a, b, quotient, rest, err)
		}
	}
	for _, a := range [][]uint32{nil, {1}, {0, 1}, full()} {
		fails(a, nil)
		fails(a, []uint32{})
		for _, bad := range noNumbers() {
			fails(a, bad)
			fails(bad, a)
			fails(bad, bad)
		}
	}
}
