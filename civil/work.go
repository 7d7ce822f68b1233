package civil

import (
	"slices"
	"sort"

	"letterbag/api"
)

// MaxHolidays is the greatest number of holidays in a list.
const MaxHolidays = 1000

// The days of a week that can be working days are the first ones.
const (
	weekDays    = 7
	weekWorking = 5
)

// Right reports whether days are a list of holidays.
func Right(holidays []int) bool {
	if len(holidays) > MaxHolidays {
		return false
	}
	last := -1
	for _, day := range holidays {
		if day <= last || day > api.MaxDay {
			return false
		}
		last = day
	}
	return true
}

// Works reports whether a day is a working day.
func Works(day int, holidays []int) (bool, api.Errno) {
	if !Right(holidays) {
		return false, api.ErrArg
	}
	if err := checkDay(day); err != api.OK {
		return false, err
	}
	_, holiday := slices.BinarySearch(holidays, day)
	return inWeek(day) && !holiday, api.OK
}

// Between returns the number of working days from a day on, less than another one.
func Between(from, to int, holidays []int) (int, api.Errno) {
	if !Right(holidays) || from < 0 || to < from {
		return 0, api.ErrArg
	}
	if to > api.MaxDay {
		return 0, api.ErrLong
	}
	worked := workedBefore(holidays)
	return worked(to) - worked(from), api.OK
}

// Ahead returns the working day that is n working days ahead.
func Ahead(day, n int, holidays []int) (int, api.Errno) {
	if !Right(holidays) || n < 0 {
		return 0, api.ErrArg
	}
	if err := checkDay(day); err != api.OK {
		return 0, err
	}
	worked := workedBefore(holidays)
	start := worked(day)
	days := api.MaxDay - day + 1
	// The day that is looked for is the first one behind which more than n working days are over; n may be too great to add 1 to it.
	found := sort.Search(days, func(i int) bool { return worked(day+i+1)-start > n })
	if found == days {
		return 0, api.ErrLong
	}
	return day + found, api.OK
}

// workedBefore returns a function that counts the working days in front of a day.
func workedBefore(holidays []int) func(day int) int {
	// A holiday at the end of a week takes no working day away.
	lost := func(day int) int {
		n := 0
		for _, holiday := range holidays {
			if holiday >= day {
				break
			}
			if inWeek(holiday) {
				n++
			}
		}
		return n
	}
	return func(day int) int {
		return day/weekDays*weekWorking + min(day%weekDays, weekWorking) - lost(day)
	}
}

// inWeek reports whether a day is neither a Saturday nor a Sunday.
func inWeek(day int) bool {
	return day%weekDays < weekWorking
}
