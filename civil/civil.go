// Package civil counts days and minutes. It is layer 1: see shared/doc/01-civil.md.
package civil

import "letterbag/api"

// Errors.
const (
	ErrDate api.Errno = 10 // no date, or no day of the year
	ErrText api.Errno = 11 // no text of a date, or of a time
)

// The years that have days: day 0 begins the first one, api.MaxDay ends the last one.
const (
	firstYear = 2001
	lastYear  = 4000
)

// monthStarts has how many days of an ordinary year are ahead of each month; the last number is the length of the year.
var monthStarts = [13]int{0, 31, 59, 90, 120, 151, 181, 212, 243, 273, 304, 334, 365}

// Leap reports whether a year is a leap year.
func Leap(year int) bool {
	return year%4 == 0 && (year%100 != 0 || year%400 == 0)
}

// Day returns the day of a date.
func Day(year, month, day int) (int, api.Errno) {
	if year < firstYear || year > lastYear || month < 1 || month > 12 {
		return 0, ErrDate
	}
	leap := Leap(year)
	if day < 1 || day > monthStart(month+1, leap)-monthStart(month, leap) {
		return 0, ErrDate
	}
	return yearStart(year-firstYear) + monthStart(month, leap) + day - 1, api.OK
}

// Date returns the date of a day: year, month, day of the month.
func Date(day int) (int, int, int, api.Errno) {
	if err := checkDay(day); err != api.OK {
		return 0, 0, 0, err
	}
	// No year has more than 366 days, so this guess is never too late.
	years := day / 366
	for yearStart(years+1) <= day {
		years++
	}
	leap := Leap(firstYear + years)
	rest := day - yearStart(years)
	month := 1
	for monthStart(month+1, leap) <= rest {
		month++
	}
	return firstYear + years, month, rest - monthStart(month, leap) + 1, api.OK
}

// Weekday returns the weekday of a day, from 0 (Monday) to 6.
func Weekday(day int) (int, api.Errno) {
	if err := checkDay(day); err != api.OK {
		return 0, err
	}
	return day % weekDays, api.OK
}

// Time returns the time of a minute of a day.
func Time(day, minute int) (int, api.Errno) {
	if minute < 0 || minute >= api.DayMinutes {
		return 0, api.ErrArg
	}
	if err := checkDay(day); err != api.OK {
		return 0, err
	}
	return day*api.DayMinutes + minute, api.OK
}

// Split returns the day of a time, and the minute of the day.
func Split(time int) (int, int, api.Errno) {
	if err := checkUpTo(time, api.MaxTime); err != api.OK {
		return 0, 0, err
	}
	return time / api.DayMinutes, time % api.DayMinutes, api.OK
}

// Yearly reports whether a day lies from one day of the year to another one.
func Yearly(day, from, to int) (bool, api.Errno) {
	_, month, monthDay, err := Date(day)
	if err != api.OK {
		return false, err
	}
	if !yearDay(from) || !yearDay(to) {
		return false, ErrDate
	}
	own := 100*month + monthDay
	if from > to {
		return own >= from || own <= to, api.OK
	}
	return own >= from && own <= to, api.OK
}

// yearDay reports whether a number is a day of the year.
func yearDay(n int) bool {
	month, day := n/100, n%100
	if month < 1 || month > 12 {
		return false
	}
	return day >= 1 && day <= monthStart(month+1, true)-monthStart(month, true)
}

// yearStart returns the first day of the year that so many years follow the first one.
func yearStart(years int) int {
	// The rule of leap years holds for the number of years too, because the first year is one more than a multiple of 400.
	return 365*years + years/4 - years/100 + years/400
}

// monthStart returns how many days of a year are ahead of a month (13 stands for the end of the year).
func monthStart(month int, leap bool) int {
	if leap && month > 2 {
		return monthStarts[month-1] + 1
	}
	return monthStarts[month-1]
}

func checkDay(day int) api.Errno {
	return checkUpTo(day, api.MaxDay)
}

// checkUpTo returns the error of a number that must be from 0 to a greatest one.
func checkUpTo(n, greatest int) api.Errno {
	if n < 0 {
		return api.ErrArg
	}
	if n > greatest {
		return api.ErrLong
	}
	return api.OK
}
