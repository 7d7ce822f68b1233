package stats

import (
	"sort"

	"letterbag/api"
	"letterbag/nat"
)

// Least returns the lower bound of a share.
func Least(n, k, risk int) (int, api.Errno) {
	if err := check(n, k, isRisk(risk)); err != api.OK {
		return 0, err
	}
	exceeds := exceeding(n, risk)
	return firstPossible(func(share int) bool { return exceeds(orMore(n, k, share)) }), api.OK
}

// Greatest returns the upper bound of a share.
func Greatest(n, k, risk int) (int, api.Errno) {
	if err := check(n, k, isRisk(risk)); err != api.OK {
		return 0, err
	}
	exceeds := exceeding(n, risk)
	// The greatest share is the one with the least rest.
	return Whole - firstPossible(func(rest int) bool { return exceeds(orFewer(n, k, Whole-rest)) }), api.OK
}

// firstPossible returns the least share that is possible. All shares above a possible one are possible, and Whole always is: all chances together exceed every risk.
func firstPossible(possible func(share int) bool) int {
	return sort.Search(Whole, possible)
}

// exceeding returns a function that reports whether a chance of n trials exceeds a risk.
func exceeding(n, risk int) func(chance []uint32) bool {
	limit := product(risk, power(Whole, n))
	return func(chance []uint32) bool {
		order, _ := nat.Cmp(product(Whole, chance), limit)
		return order > 0
	}
}

// isRisk reports whether a number is a risk.
func isRisk(n int) bool {
	return n >= 1 && n <= MaxRisk
}
