package ruleline_test

import (
	"math"
	"regexp"
	"slices"
	"strconv"
	"strings"
	"sync"
	"testing"

	"analemma/api"
	"analemma/clock"
	"analemma/dayspec"
	"analemma/name"
	"analemma/offset"
	"analemma/ruleline"
	"analemma/word"
)

// ofYear restates how a year is written.
var ofYear = regexp.MustCompile(`^[1-9][0-9]{0,3}$`)

var shortMonths = []string{"", "Jan", "Feb", "Mar", "Apr", "May", "Jun", "Jul", "Aug", "Sep", "Oct", "Nov", "Dec"}

// The places of the fields.
const (
	atName = iota
	atFrom
	atTo
	atUnused
	atIn
	atOn
	atAt
	atSave
	atLetter
)

// samples are right fields, at least one of each kind for each place.
var samples = [9][]string{
	{"Eire", "C-Eur", "E_2", "a"},
	{"1850", "1918", "1972", "2149"},
	{"only", "o", "MAX", "m", "maximum", "1850", "1972", "2149"},
	{"-"},
	{"Mar", "ja", "DECEMBER", "jun"},
	{"15", "lastSun", "Sun>=15", "sat<=25"},
	{"2:00u", "0", "-1:30s", "24:00", "167:59:59w", "1:00:07z"},
	{"0", "1:00", "-1:00", "0:20", "-167:59:59"},
	{"-", "S", "BST", "gmtT"},
}

// wrong are fields that are wrong at each place, with their errors; no field is wrong at the place of the unused one without being found ahead of all.
var wrong = [9]map[string]api.Errno{
	atName:   {"": api.ErrName, "-": api.ErrName, "1x": api.ErrName, "2E": api.ErrName, "E.U": api.ErrName, "E U": api.ErrName, strings.Repeat("E", 31): api.ErrName, "\u00c9ire": api.ErrName},
	atFrom:   {"": api.ErrForm, "0": api.ErrForm, "01918": api.ErrForm, "1918x": api.ErrForm, "x": api.ErrForm, "only": api.ErrForm, "max": api.ErrForm, "minimum": api.ErrForm, "-1918": api.ErrForm, "+1918": api.ErrForm, "19180": api.ErrForm, "1048576": api.ErrForm, "1": api.ErrRange, "1849": api.ErrRange, "2150": api.ErrRange, "9999": api.ErrRange},
	atTo:     {"0": api.ErrForm, "01919": api.ErrForm, "1919x": api.ErrForm, "1o": api.ErrForm, "0max": api.ErrForm, "19190": api.ErrForm, "1048576": api.ErrForm, "1": api.ErrRange, "1849": api.ErrRange, "2150": api.ErrRange, "9999": api.ErrRange, "": api.ErrWord, "x": api.ErrWord, "-": api.ErrWord, "-1919": api.ErrWord, "+1919": api.ErrWord, " 1919": api.ErrWord, "min": api.ErrWord, "onlyx": api.ErrWord, "maximums": api.ErrWord, "\u0661919": api.ErrWord},
	atUnused: {"x": api.ErrForm, "": api.ErrForm, "--": api.ErrForm, "- ": api.ErrForm, "\u2212": api.ErrForm},
	atIn:     {"": api.ErrWord, "Foo": api.ErrWord, "j": api.ErrWord, "ma": api.ErrWord, "3": api.ErrWord, "march3": api.ErrWord},
	atOn:     {"": api.ErrForm, "0": api.ErrForm, "Sun": api.ErrForm, "Sun>8": api.ErrForm, "32": api.ErrRange, "Sun>=32": api.ErrRange, "last": api.ErrWord, "S>=8": api.ErrWord},
	atAt:     {"": api.ErrForm, "-": api.ErrForm, "2:00x": api.ErrForm, "02:00": api.ErrForm, "2:0": api.ErrForm, "s": api.ErrForm, "168": api.ErrRange, "-999:00u": api.ErrRange},
	atSave:   {"": api.ErrForm, "-": api.ErrForm, "1:00s": api.ErrForm, "1:00d": api.ErrForm, "1:0": api.ErrForm, "-0": api.ErrForm, "168": api.ErrRange, "-168:00": api.ErrRange},
	atLetter: {"": api.ErrForm, "--": api.ErrForm, "S1": api.ErrForm, "ABCDE": api.ErrForm, "%s": api.ErrForm, "\u00c9": api.ErrForm, "+1": api.ErrForm},
}

// meant returns what Parse has to return.
func meant(fields []string) (api.Rule, api.Errno) {
	if len(fields) != 9 || fields[atUnused] != "-" {
		return api.Rule{}, api.ErrForm
	}
	var r api.Rule
	var l [9]api.Errno
	if r.Name = fields[atName]; !name.Set(r.Name) {
		l[atName] = api.ErrName
	}
	r.From, l[atFrom] = meantYear(fields[atFrom])
	if to := fields[atTo]; to != "" && strings.Contains("0123456789", to[:1]) {
		r.To, l[atTo] = meantYear(to)
	} else {
		r.To, l[atTo] = word.To(to)
		r.To = []int{0, r.From, 1048576}[r.To]
	}
	r.Month, l[atIn] = word.Month(fields[atIn])
	r.Day, l[atOn] = dayspec.Parse(fields[atOn])
	r.At, l[atAt] = clock.Parse(fields[atAt])
	r.Save, l[atSave] = offset.Parse(fields[atSave])
	if fields[atLetter] != "-" {
		if r.Letter = fields[atLetter]; !name.Letter(r.Letter) {
			l[atLetter] = api.ErrForm
		}
	}
	for _, e := range l {
		if e != api.OK {
			return api.Rule{}, e
		}
	}
	return r, api.OK
}

func meantYear(s string) (int, api.Errno) {
	if !ofYear.MatchString(s) {
		return 0, api.ErrForm
	}
	y, _ := strconv.Atoi(s)
	if y < 1850 || y > 2149 {
		return 0, api.ErrRange
	}
	return y, api.OK
}

// line restates what the line of a rule is, and whether it has one.
func line(r api.Rule) (string, bool) {
	to := strconv.Itoa(r.To)
	if r.To == 1048576 {
		to = "max"
	} else if r.To == r.From {
		to = "only"
	} else if r.To < 1850 || r.To > 2149 {
		return "", false
	}
	day, e := dayspec.Print(r.Day)
	at, f := clock.Print(r.At)
	save, g := offset.Print(r.Save)
	letter := r.Letter
	if letter == "" {
		letter = "-"
	} else if !name.Letter(letter) {
		return "", false
	}
	if !name.Set(r.Name) || r.From < 1850 || r.From > 2149 || r.Month < 1 || r.Month > 12 || e != api.OK || f != api.OK || g != api.OK {
		return "", false
	}
	return "Rule " + r.Name + " " + strconv.Itoa(r.From) + " " + to + " - " + shortMonths[r.Month] + " " + day + " " + at + " " + save + " " + letter, true
}

func checkParse(t *testing.T, fields []string, want api.Rule, code api.Errno) {
	t.Helper()
	before := slices.Clone(fields)
	if r, e := ruleline.Parse(fields); r != want || e != code {
		t.Errorf("Parse(%.200q) = %v, %d, want %v, %d", fields, r, e, want, code)
	}
	if !slices.Equal(fields, before) {
		t.Errorf("Parse(%.200q) changes its argument to %.200q", before, fields)
	}
}

// checkMeant compares what Parse returns with what is defined, and checks that what is read is written, and read again.
func checkMeant(t *testing.T, fields []string) {
	t.Helper()
	want, code := meant(fields)
	checkParse(t, fields, want, code)
	if code == api.OK {
		checkAgain(t, want)
	}
}

// checkAgain checks that a rule that is right is written as its line, and read again from it.
func checkAgain(t *testing.T, r api.Rule) {
	t.Helper()
	want, ok := line(r)
	s, e := ruleline.Print(r)
	if !ok || s != want || e != api.OK {
		t.Errorf("Print(%v) = %q, %d, want %q, %t", r, s, e, want, ok)
	}
	rest, ok := strings.CutPrefix(s, "Rule ")
	if !ok {
		t.Errorf("Print(%v) = %q, a line of a rule begins with its word", r, s)
	}
	checkParse(t, strings.Split(rest, " "), r, api.OK)
}

// checkPrint compares what Print returns with what is defined.
func checkPrint(t *testing.T, r api.Rule) {
	t.Helper()
	if want, ok := line(r); ok {
		checkAgain(t, r)
	} else if s, e := ruleline.Print(r); s != "" || e != api.ErrArg {
		t.Errorf("Print(%v) = %q, %d, want %q, ErrArg", r, s, e, want)
	}
}

// ordinary returns the fields of a rule without anything special.
func ordinary() []string { return strings.Fields("US 1918 1919 - Mar lastSun 2:00 1:00 D") }

// with returns the fields of an ordinary rule, with another field at a place.
func with(at int, s string) []string {
	fields := ordinary()
	fields[at] = s
	return fields
}

// rule returns a rule of its fields.
func rule(set string, from, to, month int, day api.Day, at api.Clock, save int64, letter string) api.Rule {
	return api.Rule{Name: set, From: from, To: to, Month: month, Day: day, At: at, Save: save, Letter: letter}
}

// right returns an ordinary rule that is right.
func right() api.Rule {
	return api.Rule{Name: "US", From: 1918, To: 1919, Month: 3, Day: api.Day{Kind: api.DayLast}, At: api.Clock{Sec: 7200}, Save: 3600, Letter: "D"}
}

// P10.1: the examples, and ordinary rules.
func TestParse(t *testing.T) {
	last, eight := api.Day{Kind: api.DayLast}, api.Day{Kind: api.DayFrom, Day: 8}
	for s, want := range map[string]api.Rule{
		"Eire 1972 max - Mar Sun>=15 2:00u 0 -":       rule("Eire", 1972, api.Forever, 3, api.Day{Kind: api.DayFrom, Day: 15}, api.Clock{Sec: 7200, Base: api.Utc}, 0, ""),
		"US 1918 o - march lastSun 2:00 1:00 D":       rule("US", 1918, 1918, 3, last, api.Clock{Sec: 7200}, 3600, "D"),
		"US 1918 1919 - Mar lastSun 2:00 1:00 D":      rule("US", 1918, 1919, 3, last, api.Clock{Sec: 7200}, 3600, "D"),
		"US 1918 1918 - Mar 1 0 0 S":                  rule("US", 1918, 1918, 3, api.Day{Kind: api.DayFixed, Day: 1}, api.Clock{}, 0, "S"),
		"US 1919 1918 - Mar 1 0 0 S":                  rule("US", 1919, 1918, 3, api.Day{Kind: api.DayFixed, Day: 1}, api.Clock{}, 0, "S"),
		"E-_9 2149 1850 - Dec Sun>=8 -0:00:01s -1 Xx": rule("E-_9", 2149, 1850, 12, eight, api.Clock{Sec: -1, Base: api.Std}, -3600, "Xx"),
		"a 1850 MAXIMUM - ja 31 167:59:59z -167 SDST": rule("a", 1850, 1048576, 1, api.Day{Kind: api.DayFixed, Day: 31}, api.Clock{Sec: 604799, Base: api.Utc}, -601200, "SDST"),
		"R 2149 max - F Sat<=29 0w 167:59:59 -":       rule("R", 2149, 1048576, 2, api.Day{Kind: api.DayTo, Week: 6, Day: 29}, api.Clock{}, 604799, ""),
	} {
		checkParse(t, strings.Fields(s), want, api.OK)
		checkMeant(t, strings.Fields(s))
	}
	if s, e := ruleline.Print(right()); s != "Rule US 1918 1919 - Mar lastSun 2:00 1:00 D" || e != api.OK {
		t.Errorf("Print(%v) = %q, %d", right(), s, e)
	}
}

// P10.1: the wrong fields of the examples.
func TestParseExamples(t *testing.T) {
	for s, code := range map[string]api.Errno{
		"US 1918 1919 x Mar 1 0 0 S": api.ErrForm, "US 1918 1919 - Mar 1 0 0": api.ErrForm, "US 1918 1919 - Mar 1 0 0 S S": api.ErrForm, "": api.ErrForm,
		"1x 1 m - Foo 1 0 0 S": api.ErrName, "US 1 m - Foo 1 0 0 S": api.ErrRange, "US 1918 x - Mar 1 0 0 S": api.ErrWord,
		"US 01918 only - Mar 1 0 0 S": api.ErrForm, "US 1918 only - Mar 1 0 0 ABCDE": api.ErrForm,
	} {
		checkParse(t, strings.Fields(s), api.Rule{}, code)
		checkMeant(t, strings.Fields(s))
	}
	checkParse(t, nil, api.Rule{}, api.ErrForm)
	checkParse(t, []string{}, api.Rule{}, api.ErrForm)
}

// P10.1: there are nine fields, the fourth of which is looked at ahead of all others.
func TestParseCount(t *testing.T) {
	for n := range 20 {
		fields := make([]string, n)
		for i := range fields {
			fields[i] = "-"
		}
		want := api.ErrForm
		if n == 9 {
			want = api.ErrName
		}
		checkParse(t, fields, api.Rule{}, want)
		if more := append(ordinary(), ordinary()...); n < len(more) && n != 9 {
			checkParse(t, more[:n], api.Rule{}, api.ErrForm)
		}
	}
	for at := range 9 {
		for s := range wrong[at] {
			for x := range wrong[atUnused] {
				fields := with(at, s)
				fields[atUnused] = x
				checkParse(t, fields, api.Rule{}, api.ErrForm)
			}
		}
	}
}

// P10.1: what stands behind the length of the slice does not count.
func TestParseCapacity(t *testing.T) {
	all := append(ordinary(), "x")
	checkParse(t, all[:9], right(), api.OK)
	checkParse(t, all[:8], api.Rule{}, api.ErrForm)
	checkParse(t, all, api.Rule{}, api.ErrForm)
}

// P10.1: each wrong field alone.
func TestParseWrong(t *testing.T) {
	for at, some := range wrong {
		for s, code := range some {
			checkParse(t, with(at, s), api.Rule{}, code)
			checkMeant(t, with(at, s))
		}
	}
}

// P10.1: of two wrong fields the first one counts, at whatever places, also if all behind it are wrong.
func TestParseOrder(t *testing.T) {
	for at, some := range wrong {
		for s, code := range some {
			for behind := at + 1; behind < 9; behind++ {
				if behind == atUnused {
					continue
				}
				for x := range wrong[behind] {
					fields := with(at, s)
					fields[behind] = x
					checkParse(t, fields, api.Rule{}, code)
				}
			}
			fields := with(at, s)
			for behind := at + 1; behind < 9; behind++ {
				if behind != atUnused {
					fields[behind] = ""
				}
			}
			checkParse(t, fields, api.Rule{}, code)
		}
	}
}

// P10.1, P10.3: right fields in all mixtures.
func TestParseRight(t *testing.T) {
	fields := make([]string, 9)
	var choose func(at int)
	choose = func(at int) {
		if at == 9 {
			checkMeant(t, fields)
			if _, e := ruleline.Parse(fields); e != api.OK {
				t.Errorf("Parse(%q): error %d", fields, e)
			}
			return
		}
		for i, s := range samples[at] {
			// The times and the saves are not mixed with each other, so that there are fewer of them.
			if at == atSave && i != len(fields[atAt])%len(samples[at]) {
				continue
			}
			fields[at] = s
			choose(at + 1)
		}
	}
	choose(0)
}

// P10.1: years on both sides of the limits, for FROM and TO.
func TestParseYears(t *testing.T) {
	for y := -100; y <= 10100; y++ {
		n := strconv.Itoa(y)
		for _, at := range []int{atFrom, atTo} {
			for _, s := range []string{n, "0" + n, "+" + n, n + "x"} {
				checkMeant(t, with(at, s))
			}
		}
	}
}

// P10.1: fields with one byte changed, put in or left out.
func TestParseNear(t *testing.T) {
	for at, some := range samples {
		for _, s := range some {
			for i := range len(s) + 1 {
				for b := range 256 {
					one := string([]byte{byte(b)})
					checkMeant(t, with(at, s[:i]+one+s[i:]))
					if i < len(s) {
						checkMeant(t, with(at, s[:i]+one+s[i+1:]))
						checkMeant(t, with(at, s[:i]+s[i+1:]))
					}
				}
			}
		}
	}
}

// P10.1: fields that are much too long.
func TestParseLong(t *testing.T) {
	const n = 1 << 20
	for at := range 9 {
		for _, s := range []string{strings.Repeat("1", n), strings.Repeat("x", n), strings.Repeat("-", n), strings.Repeat("\x00", n), strings.Repeat("\xff", n), strings.Repeat("max", n), strings.Repeat("0", n)} {
			checkMeant(t, with(at, s))
		}
	}
	checkParse(t, make([]string, n), api.Rule{}, api.ErrForm)
}

// P10.2: the lines of rules.
func TestPrint(t *testing.T) {
	for want, r := range map[string]api.Rule{
		"Rule US 1918 only - Mar lastSun 2:00 1:00 D":                rule("US", 1918, 1918, 3, api.Day{Kind: api.DayLast}, api.Clock{Sec: 7200}, 3600, "D"),
		"Rule Eire 1972 max - Mar Sun>=15 2:00u 0:00 -":              rule("Eire", 1972, api.Forever, 3, api.Day{Kind: api.DayFrom, Day: 15}, api.Clock{Sec: 7200, Base: api.Utc}, 0, ""),
		"Rule E_2 2149 1850 - Dec Sat<=31 -167:59:59s -0:00:01 GMTt": rule("E_2", 2149, 1850, 12, api.Day{Kind: api.DayTo, Week: 6, Day: 31}, api.Clock{Sec: -604799, Base: api.Std}, -1, "GMTt"),
		"Rule a 1850 2149 - Jan 1 0:00 167:59:59 S":                  rule("a", 1850, 2149, 1, api.Day{Kind: api.DayFixed, Day: 1}, api.Clock{}, 604799, "S"),
	} {
		if s, e := ruleline.Print(r); s != want || e != api.OK {
			t.Errorf("Print(%v) = %q, %d, want %q", r, s, e, want)
		}
		checkPrint(t, r)
	}
}

// P10.2: one field of a rule that is wrong, or at a limit; and all of it zero.
func TestPrintWrong(t *testing.T) {
	checkArg := func(change func(r *api.Rule)) {
		t.Helper()
		r := right()
		change(&r)
		if s, e := ruleline.Print(r); s != "" || e != api.ErrArg {
			t.Errorf("Print(%v) = %q, %d, want ErrArg", r, s, e)
		}
		checkPrint(t, r)
	}
	checkArg(func(r *api.Rule) { *r = api.Rule{} })
	for _, s := range []string{"", "-", "1x", "E U", "E.U", strings.Repeat("E", 31), "US\n"} {
		checkArg(func(r *api.Rule) { r.Name = s })
	}
	for _, s := range []string{"-", "S1", "ABCDE", " ", "S S", "S\n", "\u00c9"} {
		checkArg(func(r *api.Rule) { r.Letter = s })
	}
	far := []int{0, -1, 1, 1849, 2150, 9999, api.Forever - 1, api.Forever + 1, 1<<32 + 1918, 1<<32 + 3, math.MaxInt, math.MinInt}
	for _, x := range append(far, api.Forever) {
		checkArg(func(r *api.Rule) { r.From = x })
		checkArg(func(r *api.Rule) { r.From, r.To = x, x })
		checkArg(func(r *api.Rule) { r.From, r.To = x, api.Forever })
	}
	for _, x := range far {
		checkArg(func(r *api.Rule) { r.To = x })
	}
	for _, x := range append(far[:2:2], 13, 1<<32+3, 1<<8+3, math.MaxInt, math.MinInt) {
		checkArg(func(r *api.Rule) { r.Month = x })
	}
	for _, d := range []api.Day{{}, {Kind: 5, Day: 1}, {Kind: api.DayFixed}, {Kind: api.DayFixed, Day: 32}, {Kind: api.DayFixed, Week: 1, Day: 1}, {Kind: api.DayLast, Week: 7}, {Kind: api.DayLast, Day: 1}, {Kind: api.DayFrom, Week: -1, Day: 1}} {
		checkArg(func(r *api.Rule) { r.Day = d })
	}
	for _, c := range []api.Clock{{Sec: 604800}, {Sec: -604800}, {Base: 3}, {Base: -1}, {Sec: math.MinInt64}, {Sec: 1 << 32}} {
		checkArg(func(r *api.Rule) { r.At = c })
	}
	for _, x := range []int64{604800, -604800, 1 << 32, math.MaxInt64, math.MinInt64} {
		checkArg(func(r *api.Rule) { r.Save = x })
	}
}

// P10.2, P10.3: rules around and at the limits, one field changed at a time, and years in pairs.
func TestPrintLimits(t *testing.T) {
	check := func(change func(r *api.Rule)) {
		t.Helper()
		r := right()
		change(&r)
		checkPrint(t, r)
	}
	years := []int{-1, 0, 1, 1849, 1850, 1851, 1918, 2148, 2149, 2150, api.Forever - 1, api.Forever, api.Forever + 1}
	for _, from := range years {
		for _, to := range years {
			check(func(r *api.Rule) { r.From, r.To = from, to })
		}
	}
	for m := -3; m <= 16; m++ {
		check(func(r *api.Rule) { r.Month = m })
	}
	for x := int64(-700000); x <= 700000; x += 311 {
		check(func(r *api.Rule) { r.Save = x })
		check(func(r *api.Rule) { r.At.Sec, r.At.Base = x, int(x+700000)%5-1 })
	}
	for _, x := range []int64{-604800, -604799, 604799, 604800} {
		check(func(r *api.Rule) { r.Save = x })
		check(func(r *api.Rule) { r.At.Sec = x })
	}
	for _, s := range []string{"E", strings.Repeat("E", 30), strings.Repeat("E", 31), "only", "max", "Rule"} {
		check(func(r *api.Rule) { r.Name = s })
	}
	for _, s := range []string{"", "A", "ABCD", "ABCDE", "only", "max"} {
		check(func(r *api.Rule) { r.Letter = s })
	}
}

// P10.3: rules with the same line are equal.
func TestLines(t *testing.T) {
	rules := map[string]api.Rule{}
	check := func(r api.Rule) {
		t.Helper()
		s, e := ruleline.Print(r)
		if other, ok := rules[s]; e != api.OK || ok && other != r {
			t.Errorf("%v, error %d, has the same line as %v: %q", r, e, other, s)
		}
		rules[s] = r
	}
	for _, setName := range []string{"E", "F"} {
		for _, years := range [][2]int{{1918, 1918}, {1918, 1919}, {1919, 1918}, {1918, api.Forever}, {1919, 1919}} {
			for m := 1; m <= 12; m++ {
				for _, d := range []api.Day{{Kind: api.DayFixed, Day: 8}, {Kind: api.DayLast, Week: 1}, {Kind: api.DayFrom, Day: 8}, {Kind: api.DayTo, Day: 8}} {
					for base := api.Wall; base <= api.Utc; base++ {
						for _, x := range []int64{-3600, 0, 1, 60, 3600} {
							for _, letter := range []string{"", "S", "s"} {
								check(api.Rule{Name: setName, From: years[0], To: years[1], Month: m, Day: d, At: api.Clock{Sec: x, Base: base}, Save: x, Letter: letter})
								check(api.Rule{Name: setName, From: years[0], To: years[1], Month: m, Day: d, At: api.Clock{Sec: 7200, Base: base}, Save: x, Letter: letter})
							}
						}
					}
				}
			}
		}
	}
}

// P10.4: words cut off and in other cases, only in place of a year, and letters of times that mean the same.
func TestWords(t *testing.T) {
	same := func(first string, others ...string) {
		t.Helper()
		want, e := ruleline.Parse(strings.Fields(first))
		if e != api.OK {
			t.Fatalf("%q: error %d", first, e)
		}
		for _, s := range others {
			checkParse(t, strings.Fields(s), want, api.OK)
		}
	}
	same("US 1918 1918 - Mar lastSun 2:00 1:00 D", "US 1918 only - Mar lastSun 2:00 1:00 D", "US 1918 o - march lastSunday 2:00w 1 D", "US 1918 ONLY - mArC LASTSU 2w 1:00 D", "US 1918 oNl - MAR lastsund 2 1:00:00 D")
	same("US 1918 max - Sep Sun>=8 2:00u 0 -", "US 1918 m - s sunday>=8 2:00g 0:00 -", "US 1918 MAXIMUM - SEPTEMBER SU>=8 2:00z 0 -", "US 1918 ma - Sept sUn>=8 2:00:00u 0 -", "US 1918 maxim - se Sun>=8 2u 0 -")
	for n := 1; n <= len("maximum"); n++ {
		want := right()
		want.To = api.Forever
		checkParse(t, with(atTo, "maximum"[:n]), want, api.OK)
		checkParse(t, with(atTo, "MAXIMUM"[:n]), want, api.OK)
	}
	for n := 1; n <= len("only"); n++ {
		want := right()
		want.To = want.From
		checkParse(t, with(atTo, "only"[:n]), want, api.OK)
		checkParse(t, with(atTo, "ONLY"[:n]), want, api.OK)
	}
}

// R8, R9: equal calls side by side have equal results.
func TestSideBySide(t *testing.T) {
	var group sync.WaitGroup
	for range 8 {
		group.Go(func() {
			for range 100 {
				for at, some := range samples {
					for _, s := range some {
						checkMeant(t, with(at, s))
					}
					for s := range wrong[at] {
						checkMeant(t, with(at, s))
					}
				}
			}
		})
	}
	group.Wait()
}
