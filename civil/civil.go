// Package civil is layer 1: civil dates. See shared/doc/01-civil.md.
package civil

import "analemma/api"

const (
	cycleYears = 400    // behind these the calendar repeats itself
	cycleDays  = 146097 // days of 400 years
	secondsDay = 86400
	weekDays   = 7
	epochWeek  = 4      // the weekday of January 1 of 1970
	epoch      = 719528 // days from January 1 of 0 to January 1 of 1970
	epochMarch = 719468 // days from March 1 of 0 to January 1 of 1970

	// The limits are whole cycles away from the year 0, and the last year is a leap year as 0 is.
	cycles   = api.MaxCivil / cycleYears
	firstDay = -cycles*cycleDays - epoch
	lastDay  = cycles*cycleDays + 365 - epoch
)

// daysBefore has the days in front of each month of a year with 365 days, and those of all of it.
var daysBefore = [13]int{0, 31, 59, 90, 120, 151, 181, 212, 243, 273, 304, 334, 365}

// Leap reports whether a year has 366 days.
func Leap(y int64) bool { return y%4 == 0 && (y%100 != 0 || y%400 == 0) }

// Len returns how many days a month has; 0 if there is no such month.
func Len(y int64, m int) int {
	if m < 1 || m > 12 {
		return 0
	}
	n := daysBefore[m] - daysBefore[m-1]
	if m == 2 && Leap(y) {
		n++
	}
	return n
}

// Days returns the number of a day: days from January 1 of 1970 on.
func Days(y int64, m, d int) (int64, api.Errno) {
	if y < -api.MaxCivil || y > api.MaxCivil || d < 1 || d > Len(y, m) {
		return 0, api.ErrRange
	}
	n := yearStart(y) + int64(daysBefore[m-1]) + int64(d-1)
	if m > 2 && Leap(y) {
		n++
	}
	return n, api.OK
}

// Date returns the year, the month and the day of the month of a day.
func Date(days int64) (int64, int, int, api.Errno) {
	if days < firstDay || days > lastDay {
		return 0, 0, 0, api.ErrRange
	}
	// In years that begin with March 1 the leap day is the last day, so that it moves no month.
	n := days + epochMarch
	cycle := floorDiv(n, cycleDays)
	rest := n - cycle*cycleDays
	// Without the leap days up to this one all years have 365 days; 146,096 is the one that ends the cycle.
	year := (rest - rest/1460 + rest/36524 - rest/146096) / 365
	m, d := marchMonth(int(rest - (365*year + year/4 - year/100)))
	year += cycle * cycleYears
	if m <= 2 {
		year++
	}
	return year, m, d, api.OK
}

// Weekday returns the weekday of a day, from 0, Sunday, to 6.
func Weekday(days int64) int {
	// The remainder comes first: the sum of days and a weekday could overflow.
	return int((days%weekDays + weekDays + epochWeek) % weekDays)
}

// Year returns the year of a second.
func Year(t int64) int64 {
	day := floorDiv(t, secondsDay)
	if day < firstDay {
		return -api.MaxCivil
	}
	if day > lastDay {
		return api.MaxCivil
	}
	y, _, _, _ := Date(day)
	return y
}

// yearStart returns the number of January 1 of a year.
func yearStart(y int64) int64 {
	before := y - 1
	leaps := floorDiv(before, 4) - floorDiv(before, 100) + floorDiv(before, 400)
	return 365*y + leaps + 1 - epoch // the 1 is for the year 0, which is a leap year
}

// marchMonth returns the month and the day of the month of a day of a year that begins with March 1, which is its day 0.
func marchMonth(day int) (int, int) {
	// From March on, each five months have 153 days: 31, 30, 31, 30, 31.
	i := (5*day + 2) / 153
	d := day - (153*i+2)/5 + 1
	if i < 10 {
		return i + 3, d
	}
	return i - 9, d
}

// floorDiv returns a quotient, rounded down, of a positive divisor; Go rounds to 0.
func floorDiv(a, b int64) int64 {
	q := a / b
	if a%b < 0 {
		q--
	}
	return q
}
