package nat

import (
	"slices"
	"strconv"
	"strings"

	"letterbag/api"
)

const (
	longest = 9865 // digits of 2^32768 - 1

	// Digits are taken as many at a time as a limb can have.
	group      = 9
	afterGroup = 1000000000
)

// Text returns the decimal digits of a natural number.
func Text(a []uint32) (string, api.Errno) {
	if !Right(a) {
		return "", api.ErrArg
	}
	if len(a) == 0 {
		return "0", api.OK
	}
	var digits [(longest + group - 1) / group * group]byte
	first := len(digits)
	for left := slices.Clone(a); len(left) > 0; left = trimmed(left) {
		taken := shrink(left, afterGroup)
		for range group {
			first--
			digits[first] = byte('0' + taken%10)
			taken /= 10
		}
	}
	return strings.TrimLeft(string(digits[first:]), "0"), api.OK
}

// Read returns the natural number that has a text.
func Read(s string) ([]uint32, api.Errno) {
	if !isText(s) {
		return nil, ErrText
	}
	if len(s) > longest {
		return nil, api.ErrLong
	}
	var limbs []uint32
	for s != "" {
		end := (len(s)-1)%group + 1 // the first group has what is over
		taken, _ := strconv.ParseUint(s[:end], 10, 32)
		carried := scale(limbs, afterGroup, uint32(taken))
		limbs = trimmed(append(limbs, carried))
		s = s[end:]
	}
	return number(limbs)
}

// isText reports whether a string is the text of a natural number of any length.
func isText(s string) bool {
	return s == "0" || s != "" && s[0] != '0' && strings.Trim(s, "0123456789") == ""
}
