package nat

import (
	"math/bits"

	"letterbag/api"
)

// at returns a limb, or 0 above the last one.
func at(a []uint32, i int) uint64 {
	if i >= len(a) {
		return 0
	}
	return uint64(a[i])
}

// trimmed returns limbs without zeros at the end.
func trimmed(a []uint32) []uint32 {
	for len(a) > 0 && a[len(a)-1] == 0 {
		a = a[:len(a)-1]
	}
	return a
}

// number returns the natural number of some limbs, unless it is too long.
func number(limbs []uint32) ([]uint32, api.Errno) {
	limbs = trimmed(limbs)
	if len(limbs) > MaxLimbs {
		return nil, api.ErrLong
	}
	return limbs, api.OK
}

// adder returns a function that adds what is carried to a number, and returns the lowest limb of the sum; the rest is carried to the next call.
func adder(carried uint32) func(uint64) uint32 {
	return func(n uint64) uint32 {
		// The product of two limbs, a limb and what is carried are together at most 2^64 - 1.
		n += uint64(carried)
		carried = uint32(n >> 32)
		return uint32(n)
	}
}

// put adds some times b to the limbs a, and returns what is carried above them.
func put(a, b []uint32, times uint32) uint32 {
	add := adder(0)
	for i, limb := range a {
		a[i] = add(at(b, i)*uint64(times) + uint64(limb))
	}
	return add(0)
}

// take subtracts some times b from the limbs a, and returns what they lack.
func take(a, b []uint32, times uint32) uint32 {
	add, lack := adder(0), uint32(0)
	for i, limb := range a {
		a[i], lack = bits.Sub32(limb, add(at(b, i)*uint64(times)), lack)
	}
	return add(uint64(lack))
}

// scale multiplies the limbs a by a factor, adds a number, and returns what is carried above them.
func scale(a []uint32, factor, plus uint32) uint32 {
	add := adder(plus)
	for i, limb := range a {
		a[i] = add(uint64(limb) * uint64(factor))
	}
	return add(0)
}

// shrink divides the limbs a by a divisor, and returns the remainder.
func shrink(a []uint32, divisor uint32) uint32 {
	rest := uint32(0)
	for i := len(a) - 1; i >= 0; i-- {
		a[i], rest = bits.Div32(rest, a[i], divisor)
	}
	return rest
}
