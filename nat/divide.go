package nat

import (
	"math"
	"math/bits"
	"slices"

	"letterbag/api"
)

// DivMod returns the quotient, rounded down, and the remainder.
func DivMod(a, b []uint32) ([]uint32, []uint32, api.Errno) {
	if !Right(a) || !Right(b) || len(b) == 0 {
		return nil, nil, api.ErrArg
	}
	if len(a) < len(b) {
		return nil, slices.Clone(a), api.OK
	}
	// The highest bit of the divisor must be set, so that its highest limb tells each limb of the quotient almost exactly.
	times := uint32(1) << bits.LeadingZeros32(b[len(b)-1])
	rest, divisor := append(slices.Clone(a), 0), slices.Clone(b)
	scale(rest, times, 0)
	scale(divisor, times, 0)
	quotient := make([]uint32, len(a)-len(b)+1)
	for i := len(quotient) - 1; i >= 0; i-- {
		quotient[i] = reduce(rest[i:i+len(b)+1], divisor)
	}
	shrink(rest, times)
	return trimmed(quotient), trimmed(rest), api.OK
}

// reduce leaves the remainder of a, which has one limb more than b, and is less than 2^32 times b, and returns the quotient. The highest bit of b is set.
func reduce(a, b []uint32) uint32 {
	top := at(a, len(b))<<32 | at(a, len(b)-1)
	// This is the quotient, or at most 2 greater.
	quotient := uint32(min(top/at(b, len(b)-1), math.MaxUint32))
	for lack := take(a, b, quotient); lack > 0; lack -= put(a, b, 1) {
		quotient--
	}
	return quotient
}
