package nat

import (
	"slices"
	"testing"

	"letterbag/api"
)

// mixed returns numbers of some lengths, of which three can be multiplied.
func mixed() [][]uint32 {
	return [][]uint32{nil, {1}, {10}, {highest}, {0, 1}, {highest, highest}, power(10), repeated(highest, 30), repeated(highest, 300), scattered(2, 1), scattered(3, 2), scattered(33, 3), scattered(100, 4), scattered(340, 5)}
}

// done returns a result, and fails if there is an error.
func done(t *testing.T) func([]uint32, api.Errno) []uint32 {
	return func(a []uint32, err api.Errno) []uint32 {
		t.Helper()
		if err != api.OK || !Right(a) {
			t.Fatal(a, err)
		}
		return a
	}
}

func TestP3_6Division(t *testing.T) {
	must := done(t)
	for _, a := range append(mixed(), full(), scattered(MaxLimbs, 1)) {
		for _, b := range mixed()[1:] {
			quotient, rest, err := DivMod(a, b)
			if order, _ := Cmp(rest, b); order != -1 || err != api.OK {
				t.Fatalf("a remainder is not less than the divisor: %v, %v", a, b)
			}
			if again := must(Add(must(Mul(quotient, b)), rest)); !slices.Equal(again, a) {
				t.Fatalf("quotient and remainder do not add up: %v, %v", a, b)
			}
		}
	}
}

func TestP3_6OrderAndParts(t *testing.T) {
	must := done(t)
	for _, a := range mixed() {
		for _, b := range mixed() {
			sum, product := must(Add(a, b)), must(Mul(a, b))
			if !slices.Equal(sum, must(Add(b, a))) || !slices.Equal(product, must(Mul(b, a))) || !slices.Equal(must(Sub(sum, b)), a) || !slices.Equal(must(Sub(sum, a)), b) {
				t.Fatalf("%v and %v", a, b)
			}
			for _, c := range mixed() {
				if !slices.Equal(must(Add(sum, c)), must(Add(a, must(Add(b, c))))) || !slices.Equal(must(Mul(product, c)), must(Mul(a, must(Mul(b, c))))) || !slices.Equal(must(Mul(sum, c)), must(Add(must(Mul(a, c)), must(Mul(b, c))))) {
					t.Fatalf("%v and %v and %v", a, b, c)
				}
			}
		}
	}
}

func TestP3_6Powers(t *testing.T) {
	must := done(t)
	for _, a := range mixed() {
		if len(a) > MaxLimbs/10 {
			continue
		}
		for n := range 6 {
			if next := must(Pow(a, n+1)); !slices.Equal(next, must(Mul(a, must(Pow(a, n))))) {
				t.Fatalf("the power %d of %v", n, a)
			}
			for m := range 6 {
				if !slices.Equal(must(Pow(a, n+m)), must(Mul(must(Pow(a, n)), must(Pow(a, m))))) {
					t.Fatalf("the powers %d and %d of %v", n, m, a)
				}
			}
		}
	}
}

// within returns a number in front of other limbs, which are its spare capacity, and those limbs.
func within(a []uint32) ([]uint32, []uint32) {
	all := append(slices.Clone(a), 77, 88, 99, 11, 22)
	return all[:len(a)], all
}

// TestR3Unmodified checks that arguments are left as they are, with what lies behind them, and that no result shares memory with them, or with another.
func TestR3Unmodified(t *testing.T) {
	numbers := [][]uint32{nil, {5}, {0, 1}, {7, 8, 9}, repeated(highest, 6), scattered(20, 1), full()}
	calls := []func(a, b []uint32) [][]uint32{
		func(a, b []uint32) [][]uint32 { r, _ := Add(a, b); return [][]uint32{r} },
		func(a, b []uint32) [][]uint32 { r, _ := Sub(a, b); return [][]uint32{r} },
		func(a, b []uint32) [][]uint32 { r, _ := Mul(a, b); return [][]uint32{r} },
		func(a, b []uint32) [][]uint32 { q, r, _ := DivMod(a, b); return [][]uint32{q, r} },
		func(a, b []uint32) [][]uint32 { r, _ := Pow(a, len(b)); return [][]uint32{r} },
		func(a, b []uint32) [][]uint32 { Text(a); Cmp(a, b); Right(a); Uint(a); return nil },
		func(a, b []uint32) [][]uint32 { return [][]uint32{Of(1 << 32), Of(5)} },
		func(a, b []uint32) [][]uint32 { r, _ := Read("12345678901234567890"); return [][]uint32{r} },
	}
	for i, call := range calls {
		for _, first := range numbers {
			for _, second := range numbers {
				a, allA := within(first)
				b, allB := within(second)
				wantA, wantB := slices.Clone(allA), slices.Clone(allB)
				want := call(slices.Clone(first), slices.Clone(second))
				got := call(a, b)
				for j, r := range got {
					if !slices.Equal(r, want[j]) {
						t.Fatalf("function %d is not the same again", i)
					}
					for k := range r[:cap(r)] { // overwrites all of the result, with what lies behind it
						r[:cap(r)][k] = 0x5a5a5a5a
					}
					for k := j + 1; k < len(got); k++ {
						if !slices.Equal(got[k], want[k]) {
							t.Fatalf("results of function %d share memory", i)
						}
					}
				}
				if !slices.Equal(allA, wantA) || !slices.Equal(allB, wantB) {
					t.Fatalf("function %d: an argument was modified", i)
				}
				if again := call(slices.Clone(first), slices.Clone(second)); !slices.EqualFunc(again, want, slices.Equal) {
					t.Fatalf("function %d kept a result", i)
				}
			}
		}
	}
}

// TestR3SameNumber passes the same limbs twice.
func TestR3SameNumber(t *testing.T) {
	must := done(t)
	a := scattered(30, 2)
	b := slices.Clone(a)
	quotient, rest, _ := DivMod(a, a)
	order, _ := Cmp(a, a)
	if len(must(Sub(a, a))) != 0 || !slices.Equal(quotient, []uint32{1}) || len(rest) != 0 || order != 0 {
		t.Error(quotient, rest, order)
	}
	if !slices.Equal(must(Add(a, a)), must(Mul(a, Of(2)))) || !slices.Equal(must(Mul(a, a)), must(Pow(a, 2))) || !slices.Equal(a, b) {
		t.Error("sums or products of the same number")
	}
}
