package stats

import "letterbag/nat"

// terms yields the numbers of subsets of 0, 1 and so on of n elements, each times a to the power of how many elements are in the subset, times b to the power of how many are not.
// With a share and its rest these are the chances; with 1 and 1 the numbers of subsets alone.
func terms(n, a, b int) func(yield func(k int, term []uint32) bool) {
	return func(yield func(k int, term []uint32) bool) {
		last := power(b, n)
		for k := 0; yield(k, last) && k < n; k++ {
			switch {
			case b > 0:
				last = quotient(product((n-k)*a, last), (k+1)*b)
			case k+1 == n: // only the whole set is there without a factor b; a 0 cannot be divided out again
				last = power(a, n)
			}
		}
	}
}

// term returns the term of k of n elements.
func term(n, k, a, b int) []uint32 {
	for i, found := range terms(n, a, b) {
		if i == k {
			return found
		}
	}
	return nil
}

// orFewer returns the lower chance of k.
func orFewer(n, k, share int) []uint32 {
	var sum []uint32
	for i, chance := range terms(n, share, Whole-share) {
		if i > k {
			break
		}
		sum, _ = nat.Add(sum, chance)
	}
	return sum
}

// orMore returns the upper chance of k: as many trials succeed, or more, exactly if the others fail, or fewer.
func orMore(n, k, share int) []uint32 {
	return orFewer(n, n-k, Whole-share)
}

// Up to MaxTrials trials no number comes near to nat.MaxLimbs limbs, so the errors of layer 3 do not occur here.

// power returns the product of n factors a.
func power(a, n int) []uint32 {
	p, _ := nat.Pow(nat.Of(uint64(a)), n)
	return p
}

// product returns a number times a factor.
func product(factor int, number []uint32) []uint32 {
	p, _ := nat.Mul(nat.Of(uint64(factor)), number)
	return p
}

// quotient returns a number divided by a divisor, which is not 0.
func quotient(number []uint32, divisor int) []uint32 {
	q, _, _ := nat.DivMod(number, nat.Of(uint64(divisor)))
	return q
}
