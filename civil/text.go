package civil

import (
	"strconv"
	"strings"

	"letterbag/api"
)

// The lengths of texts.
const (
	dateLength = len("2001-01-01")
	timeLength = len("2001-01-01 00:00")
)

// Text returns the text of a date.
func Text(day int) (string, api.Errno) {
	year, month, monthDay, err := Date(day)
	if err != api.OK {
		return "", err
	}
	return padded(year, 4) + "-" + padded(month, 2) + "-" + padded(monthDay, 2), api.OK
}

// Read returns the day that has a text.
func Read(s string) (int, api.Errno) {
	if len(s) != dateLength || s[4] != '-' || s[7] != '-' {
		return 0, ErrText
	}
	// Day refuses the -1 that number returns where there are no digits.
	day, err := Day(number(s[:4]), number(s[5:7]), number(s[8:]))
	if err != api.OK {
		return 0, ErrText
	}
	return day, api.OK
}

// TimeText returns the text of a time.
func TimeText(time int) (string, api.Errno) {
	day, minute, err := Split(time)
	if err != api.OK {
		return "", err
	}
	date, _ := Text(day) // a time has a day, and each day has a text
	return date + " " + padded(minute/60, 2) + ":" + padded(minute%60, 2), api.OK
}

// ReadTime returns the time that has a text.
func ReadTime(s string) (int, api.Errno) {
	if len(s) != timeLength || s[dateLength] != ' ' || s[dateLength+3] != ':' {
		return 0, ErrText
	}
	day, err := Read(s[:dateLength])
	if err != api.OK {
		return 0, ErrText
	}
	hour, minute := number(s[dateLength+1:dateLength+3]), number(s[dateLength+4:])
	if hour < 0 || hour > 23 || minute < 0 || minute > 59 {
		return 0, ErrText
	}
	return day*api.DayMinutes + hour*60 + minute, api.OK
}

// padded writes a number with zeros in front, up to a width.
func padded(n, width int) string {
	digits := strconv.Itoa(n)
	return strings.Repeat("0", max(0, width-len(digits))) + digits
}

// number returns the number that a few digits write, or -1 if there is another byte among them.
func number(digits string) int {
	n := 0
	for i := range len(digits) {
		if digits[i] < '0' || digits[i] > '9' {
			return -1
		}
		n = 10*n + int(digits[i]-'0')
	}
	return n
}
