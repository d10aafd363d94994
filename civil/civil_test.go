package civil_test

import (
	"math"
	"testing"

	"analemma/api"
	"analemma/civil"
)

const (
	first = -719528 - 5000000*146097       // January 1 of -2,000,000,000: 5,000,000 cycles of 400 years
	last  = -719528 + 5000000*146097 + 365 // December 31 of 2,000,000,000
)

// date is a date of a calendar that only counts on, from day to day.
type date struct {
	y    int64
	m, d int
}

// monthLen restates the rule of the chapter without arithmetic on days.
func monthLen(y int64, m int) int {
	switch m {
	case 1, 3, 5, 7, 8, 10, 12:
		return 31
	case 4, 6, 9, 11:
		return 30
	}
	switch {
	case y%400 == 0:
		return 29
	case y%100 == 0:
		return 28
	case y%4 == 0:
		return 29
	}
	return 28
}

func (x date) next() date {
	switch {
	case x.d < monthLen(x.y, x.m):
		return date{x.y, x.m, x.d + 1}
	case x.m < 12:
		return date{x.y, x.m + 1, 1}
	}
	return date{x.y + 1, 1, 1}
}

// checkDay tests everything about one day, and returns whether it is as it has to be.
func checkDay(t *testing.T, x date, n int64, week int) bool {
	t.Helper()
	ok := true
	if got, e := civil.Days(x.y, x.m, x.d); got != n || e != api.OK {
		t.Errorf("Days(%v) = %d, %v; want %d", x, got, e, n)
		ok = false
	}
	if y, m, d, e := civil.Date(n); (date{y, m, d}) != x || e != api.OK {
		t.Errorf("Date(%d) = %d %d %d, %v; want %v", n, y, m, d, e, x)
		ok = false
	}
	if got := civil.Weekday(n); got != week {
		t.Errorf("Weekday(%d) = %d; want %d", n, got, week)
		ok = false
	}
	if a, b := civil.Year(n*86400), civil.Year(n*86400+86399); a != x.y || b != x.y {
		t.Errorf("Year of %v = %d, %d", x, a, b)
		ok = false
	}
	return ok
}

// walk goes from day to day, and stops at the first one that is wrong, or behind the day to.
func walk(t *testing.T, x date, n int64, week int, to date) {
	t.Helper()
	for checkDay(t, x, n, week) && x != to {
		x, n, week = x.next(), n+1, (week+1)%7
	}
}

// P1.1
func TestLeap(t *testing.T) {
	for y, leap := range map[int64]bool{
		1900: false, 2000: true, 2024: true, 2023: false, 2022: false, 2100: false, 2400: true, 4: true, 100: false, 104: true, 400: true,
		0: true, -1: false, -2: false, -3: false, -4: true, -96: true, -100: false, -200: false, -300: false, -400: true,
		api.MaxCivil: true, api.MaxCivil + 4: true, api.MaxCivil + 100: false, -api.MaxCivil: true, -api.MaxCivil - 100: false,
		math.MaxInt64: false, 9223372036854775804: true, 9223372036854775800: false, 9223372036854775600: true,
		math.MinInt64: true, -9223372036854775804: true, -9223372036854775800: false, -9223372036854775600: true,
	} {
		if civil.Leap(y) != leap {
			t.Errorf("Leap(%d) = %v", y, !leap)
		}
	}
}

// P1.1
func TestLen(t *testing.T) {
	years := []int64{1900, 2000, 2023, 2024, 0, -1, -4, -100, -400, api.MaxCivil, -api.MaxCivil, api.MaxCivil + 1, -api.MaxCivil - 4, math.MaxInt64, math.MinInt64}
	for _, y := range years {
		for m := 1; m <= 12; m++ {
			if n := civil.Len(y, m); n != monthLen(y, m) {
				t.Errorf("Len(%d, %d) = %d; want %d", y, m, n, monthLen(y, m))
			}
		}
		for _, m := range []int{0, -1, 13, 14, -12, 1 << 32, 1<<32 + 1, math.MaxInt, math.MinInt} {
			if n := civil.Len(y, m); n != 0 {
				t.Errorf("Len(%d, %d) = %d; want 0", y, m, n)
			}
		}
	}
	if a, b := civil.Len(2023, 2), civil.Len(2024, 2); a != 28 || b != 29 {
		t.Error(a, b)
	}
}

// P1.2, P1.3, P1.4
func TestKnownDays(t *testing.T) {
	for _, x := range []struct {
		date
		n    int64
		week int
	}{
		{date{1970, 1, 1}, 0, 4},
		{date{1970, 1, 4}, 3, 0},
		{date{1969, 12, 31}, -1, 3},
		{date{1969, 12, 28}, -4, 0},
		{date{1969, 12, 27}, -5, 6},
		{date{1970, 12, 31}, 364, 4},
		{date{1999, 12, 31}, 10956, 5},
		{date{2000, 1, 1}, 10957, 6},
		{date{2000, 3, 1}, 11017, 3},
		{date{2024, 2, 29}, 19782, 4},
		{date{0, 1, 1}, -719528, 6},
		{date{0, 2, 29}, -719469, 2},
		{date{0, 3, 1}, -719468, 3},
		{date{0, 12, 31}, -719163, 0},
		{date{1, 1, 1}, -719162, 1},
		{date{-1, 12, 31}, -719529, 5},
		{date{-400, 1, 1}, -719528 - 146097, 6},
		{date{-api.MaxCivil, 1, 1}, first, 6},
		{date{-api.MaxCivil, 12, 31}, first + 365, 0},
		{date{api.MaxCivil, 1, 1}, last - 365, 6},
		{date{api.MaxCivil, 2, 29}, last - 306, 2},
		{date{api.MaxCivil, 12, 31}, last, 0},
	} {
		checkDay(t, x.date, x.n, x.week)
	}
}

// P1.2
func TestDaysRange(t *testing.T) {
	for _, x := range []date{
		{2023, 2, 29}, {1900, 2, 29}, {-1, 2, 29}, {-100, 2, 29}, {2000, 2, 30}, {0, 2, 30},
		{2024, 1, 32}, {2024, 4, 31}, {2024, 6, 31}, {2024, 9, 31}, {2024, 11, 31}, {2024, 12, 32},
		{2024, 1, 0}, {2024, 1, -1}, {2024, 3, 0}, {2024, 1, math.MaxInt}, {2024, 1, math.MinInt}, {2024, 1, 1<<32 + 1},
		{2024, 0, 1}, {2024, -1, 1}, {2024, 13, 1}, {2024, math.MaxInt, 1}, {2024, math.MinInt, 1}, {2024, 1<<32 + 1, 1},
		{2024, 0, 0}, {2024, 13, 0},
		{api.MaxCivil + 1, 1, 1}, {-api.MaxCivil - 1, 12, 31}, {api.MaxCivil, 2, 30}, {api.MaxCivil, 12, 32}, {-api.MaxCivil, 1, 0},
		{1 << 62, 1, 1}, {math.MaxInt64, 1, 1}, {math.MinInt64, 1, 1}, {math.MinInt64, 2, 29},
	} {
		if n, e := civil.Days(x.y, x.m, x.d); n != 0 || e != api.ErrRange {
			t.Errorf("Days(%v) = %d, %v", x, n, e)
		}
	}
}

// P1.3
func TestDateRange(t *testing.T) {
	for _, n := range []int64{first - 1, last + 1, first - 146097, last + 146097, 1 << 62, -1 << 62, math.MaxInt64, math.MaxInt64 - 719468, math.MinInt64, math.MinInt64 + 719468} {
		if y, m, d, e := civil.Date(n); y != 0 || m != 0 || d != 0 || e != api.ErrRange {
			t.Errorf("Date(%d) = %d %d %d, %v", n, y, m, d, e)
		}
	}
}

// P1.4
func TestWeekday(t *testing.T) {
	for n, want := range map[int64]int{
		0: 4, 1: 5, 2: 6, 3: 0, 4: 1, -1: 3, -4: 0, -5: 6, -7: 4, -8: 3, 7 << 50: 4, -7 << 50: 4,
		first - 1: 5, last + 1: 1,
		math.MaxInt64: 4, math.MaxInt64 - 1: 3, math.MaxInt64 - 4: 0, // 2^63 - 1 is a multiple of 7
		math.MinInt64: 3, math.MinInt64 + 1: 4, math.MinInt64 + 4: 0,
	} {
		if got := civil.Weekday(n); got != want {
			t.Errorf("Weekday(%d) = %d; want %d", n, got, want)
		}
	}
}

// P1.4
func TestYear(t *testing.T) {
	for x, want := range map[int64]int64{
		0: 1970, -1: 1969, 86399: 1970, 31535999: 1970, 31536000: 1971, -31536000: 1969, -31536001: 1968,
		951782400: 2000, 978307199: 2000, 978307200: 2001,
		-62135596800: 1, -62135596801: 0, -62167219200: 0, -62167219201: -1, -62198755200: -1, -62198755201: -2,
		last*86400 + 86399: api.MaxCivil, last*86400 + 86400: api.MaxCivil, (last-365)*86400 - 1: api.MaxCivil - 1, (last - 365) * 86400: api.MaxCivil,
		first * 86400: -api.MaxCivil, first*86400 - 1: -api.MaxCivil, (first+366)*86400 - 1: -api.MaxCivil, (first + 366) * 86400: -api.MaxCivil + 1,
		1 << 60: api.MaxCivil, -1 << 60: -api.MaxCivil, math.MaxInt64: api.MaxCivil, math.MinInt64: -api.MaxCivil,
	} {
		if y := civil.Year(x); y != want {
			t.Errorf("Year(%d) = %d; want %d", x, y, want)
		}
	}
}

// P1.5, P1.6: each day of 2,400 years around 0, and those at the limits.
func TestWalk(t *testing.T) {
	walk(t, date{-1200, 1, 1}, -719528-3*146097, 6, date{1200, 12, 31})
	walk(t, date{1200, 1, 1}, -719528+3*146097, 6, date{2450, 12, 31})
	walk(t, date{-api.MaxCivil, 1, 1}, first, 6, date{-api.MaxCivil + 401, 1, 1})
	walk(t, date{api.MaxCivil - 400, 1, 1}, last-365-146097, 6, date{api.MaxCivil, 12, 31})
}

// P1.5
func TestBack(t *testing.T) {
	// The step has no factor in common with the days of a cycle, so that the days meet all dates.
	for n := int64(first); n <= last; n += 7302511 {
		y, m, d, e := civil.Date(n)
		back, f := civil.Days(y, m, d)
		if e != api.OK || f != api.OK || back != n {
			t.Fatalf("Date(%d) = %d %d %d, %v; Days of it = %d, %v", n, y, m, d, e, back, f)
		}
	}
}

// P1.6
func TestCycles(t *testing.T) {
	for y := int64(-api.MaxCivil); y <= api.MaxCivil-400; y += 19999 {
		for _, x := range []date{{y, 1, 1}, {y, 2, 28}, {y, 3, 1}, {y, 12, 31}} {
			a, e := civil.Days(x.y, x.m, x.d)
			b, f := civil.Days(x.y+400, x.m, x.d)
			if e != api.OK || f != api.OK || b-a != 146097 {
				t.Fatalf("%v: %d, %v; 400 years later %d, %v", x, a, e, b, f)
			}
			if civil.Weekday(a) != civil.Weekday(b) {
				t.Fatalf("%v: weekdays %d, %d", x, civil.Weekday(a), civil.Weekday(b))
			}
		}
	}
}
