package money

import (
	"strconv"
	"strings"

	"letterbag/api"
)

// longest is the length of the longest text of an amount.
const longest = len("-10000000000000.00")

// Text returns the text of an amount.
func Text(cents int) (string, api.Errno) {
	if !Right(cents) {
		return "", api.ErrArg
	}
	sign := ""
	if cents < 0 {
		sign, cents = "-", -cents
	}
	return sign + strconv.Itoa(cents/100) + "." + strconv.Itoa(cents/10%10) + strconv.Itoa(cents%10), api.OK
}

// Read returns the amount that has a text.
func Read(s string) (int, api.Errno) {
	if len(s) > longest { // before it is copied
		return 0, ErrText
	}
	whole, rest, _ := strings.Cut(s, ".")
	cents, err := strconv.Atoi(whole + rest)
	if err != nil {
		return 0, ErrText
	}
	// Atoi takes signs, zeros in front and points that an amount's text does not have, and numbers that are no amounts: only the text itself is right.
	if text, _ := Text(cents); text != s {
		return 0, ErrText
	}
	return cents, api.OK
}
