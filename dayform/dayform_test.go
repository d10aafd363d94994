package dayform_test

import (
	"math"
	"testing"

	"analemma/api"
	"analemma/civil"
	"analemma/dayform"
)

func fixed(day int) api.Day      { return api.Day{Kind: api.DayFixed, Day: day} }
func last(week int) api.Day      { return api.Day{Kind: api.DayLast, Week: week} }
func from(week, day int) api.Day { return api.Day{Kind: api.DayFrom, Week: week, Day: day} }
func to(week, day int) api.Day   { return api.Day{Kind: api.DayTo, Week: week, Day: day} }

// forms returns all forms that are right, as the table of the chapter lists them.
func forms() []api.Day {
	var l []api.Day
	for day := 1; day <= 31; day++ {
		l = append(l, fixed(day))
		for week := 0; week <= 6; week++ {
			l = append(l, from(week, day), to(week, day))
		}
	}
	for week := 0; week <= 6; week++ {
		l = append(l, last(week))
	}
	return l
}

// wrongForms returns forms that are not right: each kind with a field out of range, or with one that has to be 0.
func wrongForms() []api.Day {
	l := []api.Day{{}, {Kind: 0, Day: 1}, {Kind: 0, Week: 1, Day: 1}}
	for _, kind := range []int{5, 6, -1, -2, 1 << 32, 1<<32 + 1, 1<<32 + 3, math.MaxInt, math.MinInt} {
		l = append(l, api.Day{Kind: kind}, api.Day{Kind: kind, Day: 1}, api.Day{Kind: kind, Week: 1, Day: 1})
	}
	for _, day := range []int{0, 32, 33, -1, 1 << 32, 1<<32 + 1, math.MaxInt, math.MinInt} {
		l = append(l, fixed(day), from(0, day), from(6, day), to(0, day), to(6, day))
	}
	for _, week := range []int{7, 8, -1, 14, 1 << 32, 1<<32 + 1, math.MaxInt, math.MinInt} {
		l = append(l, last(week), from(week, 1), from(week, 31), to(week, 1), to(week, 31))
	}
	for _, x := range []int{1, 6, 31, -1, math.MaxInt, math.MinInt} {
		l = append(l, api.Day{Kind: api.DayFixed, Week: x, Day: 15}, api.Day{Kind: api.DayLast, Week: 3, Day: x})
	}
	return l
}

// day returns the number of a day that there is.
func day(t *testing.T, y int64, m, d int) int64 {
	t.Helper()
	n, e := civil.Days(y, m, d)
	if e != api.OK {
		t.Fatalf("no day %d %d %d: %v", y, m, d, e)
	}
	return n
}

// meant finds the day of a right form by steps of a day; false if the month has no day Day.
func meant(t *testing.T, y int64, m int, d api.Day) (int64, bool) {
	t.Helper()
	n, step := d.Day, int64(-1)
	switch d.Kind {
	case api.DayLast:
		n = civil.Len(y, m)
	case api.DayFrom:
		step = 1
	}
	if n > civil.Len(y, m) {
		return 0, false
	}
	x := day(t, y, m, n)
	for d.Kind != api.DayFixed && civil.Weekday(x) != d.Week {
		x += step
	}
	return x, true
}

// years are common and leap years, so that each of the 14 calendars is there, and those at the limits.
func years() []int64 {
	l := []int64{1900, 2000, 2100, 0, -1, -4, -100, -400, api.MaxCivil, api.MaxCivil - 1, -api.MaxCivil, -api.MaxCivil + 1}
	for y := int64(2001); y <= 2028; y++ {
		l = append(l, y)
	}
	return l
}

// P2.1
func TestCheck(t *testing.T) {
	for _, d := range forms() {
		if e := dayform.Check(d); e != api.OK {
			t.Errorf("Check(%v) = %v", d, e)
		}
	}
	for _, d := range wrongForms() {
		if e := dayform.Check(d); e != api.ErrArg {
			t.Errorf("Check(%v) = %v; want ErrArg", d, e)
		}
	}
}

// P2.1: everything around what is right.
func TestCheckAround(t *testing.T) {
	right := map[api.Day]bool{}
	for _, d := range forms() {
		right[d] = true
	}
	for kind := -2; kind <= 7; kind++ {
		for week := -2; week <= 9; week++ {
			for n := -2; n <= 34; n++ {
				d := api.Day{Kind: kind, Week: week, Day: n}
				if e := dayform.Check(d); (e == api.OK) != right[d] || e != api.OK && e != api.ErrArg {
					t.Errorf("Check(%v) = %v", d, e)
				}
			}
		}
	}
}

// P2.2: the examples, and days in other months than the one that is asked for.
func TestOn(t *testing.T) {
	for _, x := range []struct {
		y    int64
		m    int
		form api.Day
		year int64
		mon  int
		day  int
	}{
		{2026, 3, last(0), 2026, 3, 29},
		{2026, 3, from(0, 8), 2026, 3, 8},
		{2026, 3, fixed(31), 2026, 3, 31},
		{2026, 3, fixed(1), 2026, 3, 1},
		{2026, 2, to(6, 1), 2026, 1, 31},
		{2026, 2, from(1, 28), 2026, 3, 2},
		{2028, 2, fixed(29), 2028, 2, 29},
		{2028, 2, from(4, 29), 2028, 3, 2},
		{2028, 2, from(2, 29), 2028, 2, 29},
		{2028, 2, to(2, 29), 2028, 2, 29},
		{2028, 2, last(2), 2028, 2, 29},
		{2028, 2, last(3), 2028, 2, 23},
		{2026, 2, last(6), 2026, 2, 28},
		{2026, 2, last(0), 2026, 2, 22},
		{2026, 3, from(1, 8), 2026, 3, 9},
		{2026, 3, from(6, 8), 2026, 3, 14},
		{2026, 3, to(0, 8), 2026, 3, 8},
		{2026, 3, to(1, 8), 2026, 3, 2},
		{2026, 3, to(6, 8), 2026, 3, 7},
		{2026, 12, from(0, 31), 2027, 1, 3},
		{2026, 1, to(0, 1), 2025, 12, 28},
		{0, 1, to(5, 1), -1, 12, 31},
		{-1, 12, from(6, 26), 0, 1, 1},
	} {
		want := day(t, x.year, x.mon, x.day)
		if n, e := dayform.On(x.y, x.m, x.form); n != want || e != api.OK {
			t.Errorf("On(%d, %d, %v) = %d, %v; want %d", x.y, x.m, x.form, n, e, want)
		}
	}
	if n, e := dayform.On(1970, 1, from(0, 1)); n != 3 || e != api.OK {
		t.Error(n, e)
	}
	if n, e := dayform.On(1970, 1, to(0, 1)); n != -4 || e != api.OK {
		t.Error(n, e)
	}
}

// P2.2: all forms in all months, the years at the limits among them.
func TestOnAll(t *testing.T) {
	for _, y := range years() {
		for m := 1; m <= 12; m++ {
			for _, d := range forms() {
				want, ok := meant(t, y, m, d)
				wantErr := api.OK
				if !ok {
					wantErr = api.ErrNone
				}
				if n, e := dayform.On(y, m, d); n != want || e != wantErr {
					t.Errorf("On(%d, %d, %v) = %d, %v; want %d, %v", y, m, d, n, e, want, wantErr)
				}
			}
		}
	}
}

// P2.2: days in the years next to the last one and the first one.
func TestOnBeyond(t *testing.T) {
	end := day(t, api.MaxCivil, 12, 31) // a Sunday
	begin := day(t, -api.MaxCivil, 1, 1)
	for _, x := range []struct {
		y    int64
		m    int
		form api.Day
		want int64
	}{
		{api.MaxCivil, 12, from(0, 31), end},
		{api.MaxCivil, 12, from(1, 31), end + 1},
		{api.MaxCivil, 12, from(6, 31), end + 6},
		{-api.MaxCivil, 1, to(6, 1), begin}, // a Saturday
		{-api.MaxCivil, 1, to(5, 1), begin - 1},
		{-api.MaxCivil, 1, to(0, 1), begin - 6},
	} {
		if n, e := dayform.On(x.y, x.m, x.form); n != x.want || e != api.OK {
			t.Errorf("On(%d, %d, %v) = %d, %v; want %d", x.y, x.m, x.form, n, e, x.want)
		}
	}
}

// P2.2: the errors, and which one comes first.
func TestOnErrors(t *testing.T) {
	check := func(y int64, m int, d api.Day, want api.Errno) {
		t.Helper()
		if n, e := dayform.On(y, m, d); n != 0 || e != want {
			t.Errorf("On(%d, %d, %v) = %d, %v; want %v", y, m, d, n, e, want)
		}
	}
	some := []api.Day{fixed(1), last(0), from(0, 1), to(0, 1), {}, {Kind: 5}, fixed(32), fixed(0), last(7)}
	for _, d := range some {
		for _, m := range []int{0, 13, -1, -12, 1 << 32, 1<<32 + 1, math.MaxInt, math.MinInt} {
			check(2026, m, d, api.ErrRange)
		}
		for _, y := range []int64{api.MaxCivil + 1, -api.MaxCivil - 1, 1 << 62, math.MaxInt64, math.MinInt64} {
			check(y, 1, d, api.ErrRange)
			check(y, 2, fixed(30), api.ErrRange)
		}
	}
	for _, d := range wrongForms() {
		for _, m := range []int{1, 2, 4, 12} {
			check(2026, m, d, api.ErrArg)
		}
		check(2026, 0, d, api.ErrRange)
	}
	for _, week := range []int{0, 3, 6} {
		for _, m := range []int{4, 6, 9, 11} {
			check(2026, m, fixed(31), api.ErrNone)
			check(2026, m, from(week, 31), api.ErrNone)
			check(2026, m, to(week, 31), api.ErrNone)
		}
		for _, y := range []int64{2026, 1900, 2100, -1, -100} {
			check(y, 2, fixed(29), api.ErrNone)
			check(y, 2, from(week, 29), api.ErrNone)
			check(y, 2, to(week, 29), api.ErrNone)
		}
		for _, y := range []int64{2028, 2000, 0, api.MaxCivil, -api.MaxCivil} {
			check(y, 2, fixed(30), api.ErrNone)
			check(y, 2, from(week, 30), api.ErrNone)
			check(y, 2, to(week, 31), api.ErrNone)
		}
	}
}

// P2.3
func TestAlways(t *testing.T) {
	for _, x := range []struct {
		from, to, m int
		form        api.Day
		want        bool
	}{
		{2000, api.Forever, 2, fixed(29), false},
		{2000, api.Forever, 2, fixed(28), true},
		{2000, api.Forever, 2, last(1), true},
		{2000, api.Forever, 2, from(1, 30), false},
		{2000, 2000, 2, fixed(29), true},
		{2001, 2000, 2, fixed(29), true},
		{2001, 2000, 2, fixed(31), true}, // no years
		{2001, 2000, 2, from(0, 30), true},
		{math.MaxInt, math.MinInt, 4, fixed(31), true},
		{api.Forever, api.Forever - 1, 2, fixed(30), true},
		{api.Forever, api.Forever - 2, 2, fixed(30), true},
		{2001, 2001, 2, fixed(29), false},
		{2000, 2001, 2, fixed(29), false},
		{1999, 2000, 2, fixed(29), false},
		{2000, 2004, 2, fixed(29), false},
		{1900, 1900, 2, fixed(29), false},
		{0, 0, 2, fixed(29), true},
		{-4, -4, 2, to(0, 29), true},
		{-100, -100, 2, to(0, 29), false},
		{2000, 2000, 2, fixed(30), false},
		{2000, 2000, 2, from(6, 29), true},
		{2000, 2000, 2, to(6, 30), false},
		{2000, 2100, 2, from(6, 28), true},
		{2000, 2100, 2, to(6, 28), true},
		{2000, 2100, 2, to(6, 29), false},
		{2000, 2100, 4, fixed(30), true},
		{2000, 2100, 4, fixed(31), false},
		{2000, 2000, 4, fixed(31), false},
		{2000, api.Forever, 4, to(0, 31), false},
		{2000, api.Forever, 1, fixed(31), true},
		{2000, api.Forever, 12, from(6, 31), true},

		// Forever and beyond: there are years in any case, and most of them are not leap years.
		{api.Forever, api.Forever, 2, fixed(29), false}, // a multiple of 4
		{api.Forever, api.Forever, 2, fixed(28), true},
		{api.Forever + 4, api.Forever + 4, 2, fixed(29), false},
		{api.Forever + 5, api.Forever, 2, fixed(29), false},
		{math.MaxInt, api.Forever, 2, fixed(29), false},
		{math.MaxInt, api.Forever, 2, fixed(28), true},
		{math.MaxInt, api.Forever, 4, fixed(31), false},
		{math.MaxInt, math.MaxInt, 2, fixed(29), false},
		{math.MinInt, math.MaxInt, 2, fixed(28), true},
		{math.MinInt, math.MaxInt, 2, fixed(29), false},
		{api.Forever - 4, api.Forever - 4, 2, fixed(29), true},
		{api.Forever - 4, api.Forever - 3, 2, fixed(29), false},
		{api.Forever - 4, api.Forever, 2, fixed(29), false},

		// Years beyond MaxCivil go on as before.
		{-9223372036854775600, -9223372036854775600, 2, fixed(29), true}, // a multiple of 400
		{-9223372036854775800, -9223372036854775800, 2, fixed(29), false},
		{math.MinInt, math.MinInt, 2, fixed(29), true}, // a multiple of 4, not of 100
		{math.MinInt, math.MinInt + 1, 2, fixed(29), false},
		{math.MinInt, -api.MaxCivil - 1, 3, fixed(31), true},
		{math.MinInt, -api.MaxCivil - 1, 4, fixed(31), false},
	} {
		if got := dayform.Always(x.from, x.to, x.m, x.form); got != x.want {
			t.Errorf("Always(%d, %d, %d, %v) = %v", x.from, x.to, x.m, x.form, got)
		}
	}
}

// P2.3: months that there are not, and forms that are not right, also for no years.
func TestAlwaysWrong(t *testing.T) {
	spans := [][2]int{{2000, 2000}, {2000, 2010}, {2001, 2000}, {2000, api.Forever}, {math.MaxInt, math.MinInt}, {math.MinInt, math.MaxInt}}
	for _, x := range spans {
		for _, m := range []int{0, 13, -1, 1 << 32, 1<<32 + 1, math.MaxInt, math.MinInt} {
			for _, d := range []api.Day{fixed(1), last(0), from(0, 1), to(0, 1)} {
				if dayform.Always(x[0], x[1], m, d) {
					t.Errorf("Always(%v, %d, %v)", x, m, d)
				}
			}
		}
		for m := 1; m <= 12; m++ {
			for _, d := range wrongForms() {
				if dayform.Always(x[0], x[1], m, d) {
					t.Errorf("Always(%v, %d, %v)", x, m, d)
				}
			}
		}
	}
}

// P2.3, P2.5: Always is true just if On finds a day in each of the years.
func TestAlwaysOn(t *testing.T) {
	spans := [][2]int{
		{2000, 2000}, {2001, 2001}, {1900, 1900}, {2000, 2001}, {1999, 2000}, {1896, 1904}, {2003, 2005}, {-5, 5}, {-100, -100}, {2005, 2004}, {2005, 1990},
		{-api.MaxCivil, -api.MaxCivil}, {-api.MaxCivil, -api.MaxCivil + 1},
	}
	for _, x := range spans {
		for m := 1; m <= 12; m++ {
			for _, d := range forms() {
				if got := dayform.Always(x[0], x[1], m, d); got != found(x[0], x[1], m, d) {
					t.Errorf("Always(%v, %d, %v) = %v", x, m, d, got)
				}
			}
		}
	}
	// Behind 400 years the calendar repeats itself.
	for _, x := range [][2]int{{2000, api.Forever}, {2000, api.Forever + 1}, {1996, math.MaxInt}, {-4, api.Forever}, {api.Forever, api.Forever}, {api.Forever + 4, api.Forever}} {
		for m := 1; m <= 12; m++ {
			for _, d := range forms() {
				if got := dayform.Always(x[0], x[1], m, d); got != found(x[0], x[0]+399, m, d) {
					t.Errorf("Always(%v, %d, %v) = %v", x, m, d, got)
				}
			}
		}
	}
}

// found reports whether On finds a day in each of some years.
func found(from, to, m int, d api.Day) bool {
	for y := from; y <= to; y++ {
		if _, e := dayform.On(int64(y), m, d); e != api.OK {
			return false
		}
	}
	return true
}

// P2.4
func TestWeekdays(t *testing.T) {
	for _, y := range years() {
		for m := 1; m <= 12; m++ {
			first := day(t, y, m, 1)
			end := first + int64(civil.Len(y, m)) - 1
			for _, d := range forms() {
				n, e := dayform.On(y, m, d)
				if e != api.OK || d.Kind == api.DayFixed {
					continue
				}
				if civil.Weekday(n) != d.Week {
					t.Errorf("On(%d, %d, %v) is the weekday %d", y, m, d, civil.Weekday(n))
				}
				near := first + int64(d.Day) - 1
				if d.Kind == api.DayLast {
					near = end
				}
				away := n - near
				if d.Kind != api.DayFrom {
					away = -away
				}
				if away < 0 || away > 6 {
					t.Errorf("On(%d, %d, %v) is %d days away", y, m, d, away)
				}
			}
		}
	}
}

// P2.6
func TestWeeks(t *testing.T) {
	for _, y := range years() {
		for m := 1; m <= 12; m++ {
			for week := 0; week <= 6; week++ {
				checkWeeks(t, y, m, week)
			}
		}
	}
}

// checkWeeks counts the days of a month that are a weekday.
func checkWeeks(t *testing.T, y int64, m, week int) {
	t.Helper()
	first, length := day(t, y, m, 1), civil.Len(y, m)
	var l []int64
	for i := range int64(length) {
		if civil.Weekday(first+i) == week {
			l = append(l, first+i)
		}
	}
	for i, n := range []int{1, 8, 15, 22} {
		if got, e := dayform.On(y, m, from(week, n)); got != l[i] || e != api.OK {
			t.Errorf("%d %d: the weekday %d from %d on is %d, %v; want %d", y, m, week, n, got, e, l[i])
		}
	}
	a, e := dayform.On(y, m, last(week))
	b, f := dayform.On(y, m, to(week, length))
	if want := l[len(l)-1]; a != want || b != want || e != api.OK || f != api.OK {
		t.Errorf("%d %d: the last weekday %d is %d, %v, and up to the last day %d, %v; want %d", y, m, week, a, e, b, f, want)
	}
}
