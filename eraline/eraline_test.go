package eraline_test

import (
	"math"
	"regexp"
	"slices"
	"strconv"
	"strings"
	"sync"
	"testing"

	"analemma/api"
	"analemma/clock"
	"analemma/dayform"
	"analemma/dayspec"
	"analemma/eraline"
	"analemma/name"
	"analemma/offset"
	"analemma/word"
)

// What the chapter says of years, of FORMATs, and of strings that begin with a letter.
var (
	ofYear   = regexp.MustCompile(`^[1-9][0-9]{0,3}$`)
	ofFormat = regexp.MustCompile(`^[!$-~]{1,20}$`)
	ofSet    = regexp.MustCompile(`^[A-Za-z]`)
)

var shortMonths = []string{"", "Jan", "Feb", "Mar", "Apr", "May", "Jun", "Jul", "Aug", "Sep", "Oct", "Nov", "Dec"}

// The places of the fields.
const (
	atOff = iota
	atRules
	atFormat
	atYear
	atMonth
	atDay
	atTime
)

// samples are right fields, at least one of each kind for each place; the first ones at the last three places are those that can be left out.
var samples = [7][]string{
	{"0", "1:00", "-3:30:52", "167:59:59"},
	{"-", "Eire", "C-Eur", "a", "1:00", "0", "-0:20", "25"},
	{"GMT", "IST/GMT", "%z", "E%sT", "-", "!", "$~'", strings.Repeat("X", 20)},
	{"1850", "1968", "2149"},
	{"Jan", "january", "JA", "Mar", "o", "DEC"},
	{"1", "31", "lastSun", "Sun>=1", "sat<=25"},
	{"0:00", "0", "0w", "0:00:00", "0:00u", "0s", "2:00", "-1:30g", "167:59:59z"},
}

// wrong are fields that are wrong at each place, with their errors.
var wrong = [7]map[string]api.Errno{
	atOff:    {"": api.ErrForm, "-": api.ErrForm, "x": api.ErrForm, "+1": api.ErrForm, "1:0": api.ErrForm, "-0": api.ErrForm, "01": api.ErrForm, "1:00s": api.ErrForm, "Eire": api.ErrForm, "168": api.ErrRange, "-168:00": api.ErrRange},
	atRules:  {"": api.ErrForm, "--": api.ErrForm, "- ": api.ErrForm, "1x": api.ErrForm, "_a": api.ErrForm, "-a": api.ErrForm, "1:0": api.ErrForm, "-0": api.ErrForm, "\u00c9ire": api.ErrForm, "@": api.ErrForm, "[": api.ErrForm, "`": api.ErrForm, "{": api.ErrForm, "168": api.ErrRange, "-999": api.ErrRange, "a!": api.ErrName, "E U": api.ErrName, "Z.": api.ErrName, "z\x00": api.ErrName, "A/B": api.ErrName, strings.Repeat("E", 31): api.ErrName},
	atFormat: {"": api.ErrFormat, " ": api.ErrFormat, "a b": api.ErrFormat, "G\"T": api.ErrFormat, "#": api.ErrFormat, "GMT#": api.ErrFormat, "\t": api.ErrFormat, "GMT\n": api.ErrFormat, "\x7f": api.ErrFormat, "\x80": api.ErrFormat, "\u00c9ST": api.ErrFormat, "\x00": api.ErrFormat, strings.Repeat("X", 21): api.ErrFormat},
	atYear:   {"": api.ErrForm, "0": api.ErrForm, "01900": api.ErrForm, "1900x": api.ErrForm, "max": api.ErrForm, "only": api.ErrForm, "-1900": api.ErrForm, "+1900": api.ErrForm, "19000": api.ErrForm, "-": api.ErrForm, "1": api.ErrRange, "1849": api.ErrRange, "2150": api.ErrRange, "9999": api.ErrRange},
	atMonth:  {"": api.ErrWord, "Ma": api.ErrWord, "j": api.ErrWord, "Foo": api.ErrWord, "1": api.ErrWord, "-": api.ErrWord, "january1": api.ErrWord},
	atDay:    {"": api.ErrForm, "0": api.ErrForm, "01": api.ErrForm, "Sun": api.ErrForm, "-": api.ErrForm, "32": api.ErrRange, "Sun>=32": api.ErrRange, "last": api.ErrWord, "S>=8": api.ErrWord},
	atTime:   {"": api.ErrForm, "-": api.ErrForm, "2:00x": api.ErrForm, "02:00": api.ErrForm, "s": api.ErrForm, "168": api.ErrRange, "-999:00u": api.ErrRange},
}

// meant returns what Parse has to return.
func meant(fields []string) (api.Era, api.Errno) {
	if len(fields) < 3 || len(fields) > 7 {
		return api.Era{}, api.ErrForm
	}
	var e api.Era
	var l [7]api.Errno
	e.Off, l[atOff] = offset.Parse(fields[atOff])
	if rules := fields[atRules]; ofSet.MatchString(rules) {
		if e.Kind, e.Set = api.Named, rules; !name.Set(rules) {
			l[atRules] = api.ErrName
		}
	} else if rules != "-" {
		e.Kind = api.Fixed
		e.Save, l[atRules] = offset.Parse(rules)
	}
	if e.Format = fields[atFormat]; !ofFormat.MatchString(e.Format) {
		l[atFormat] = api.ErrFormat
	}
	if len(fields) > 3 {
		all := append(slices.Clone(fields), []string{"Jan", "1", "0:00"}[len(fields)-4:]...)
		e.Until.Is = true
		e.Until.Year, l[atYear] = meantYear(all[atYear])
		e.Until.Month, l[atMonth] = word.Month(all[atMonth])
		e.Until.Day, l[atDay] = dayspec.Parse(all[atDay])
		e.Until.At, l[atTime] = clock.Parse(all[atTime])
	}
	for _, code := range l {
		if code != api.OK {
			return api.Era{}, code
		}
	}
	return e, api.OK
}

func meantYear(s string) (int, api.Errno) {
	if !ofYear.MatchString(s) {
		return 0, api.ErrForm
	}
	y, _ := strconv.Atoi(s)
	if y < 1850 || y > 2149 {
		return 0, api.ErrRange
	}
	return y, api.OK
}

// line restates what the line of an era is, and whether it has one.
func line(e api.Era) (string, bool) {
	off, code := offset.Print(e.Off)
	save, saveCode := offset.Print(e.Save)
	var rules string
	switch e.Kind {
	case 0:
		rules = "-"
	case 1:
		rules = save
	case 2:
		rules = e.Set
	default:
		return "", false
	}
	if code != api.OK || saveCode != api.OK || e.Kind != 1 && e.Save != 0 || !ofFormat.MatchString(e.Format) {
		return "", false
	}
	if e.Kind == 2 && !name.Set(e.Set) || e.Kind != 2 && e.Set != "" {
		return "", false
	}
	s, u := off+" "+rules+" "+e.Format, e.Until
	if !u.Is {
		return s, u == api.Until{}
	}
	if u.Year < 1850 || u.Year > 2149 || u.Month < 1 || u.Month > 12 || dayform.Check(u.Day) != api.OK || clock.Check(u.At) != api.OK {
		return "", false
	}
	day, _ := dayspec.Print(u.Day)
	at, _ := clock.Print(u.At)
	s += " " + strconv.Itoa(u.Year) + " " + shortMonths[u.Month] + " " + day + " " + at
	for _, end := range []string{" 0:00", " 1", " Jan"} {
		shorter, ok := strings.CutSuffix(s, end)
		if !ok {
			break
		}
		s = shorter
	}
	return s, true
}

func checkParse(t *testing.T, fields []string, want api.Era, code api.Errno) {
	t.Helper()
	before := slices.Clone(fields)
	if e, c := eraline.Parse(fields); e != want || c != code {
		t.Errorf("Parse(%.200q) = %v, %d, want %v, %d", fields, e, c, want, code)
	}
	if !slices.Equal(fields, before) {
		t.Errorf("Parse(%.200q) changes its argument to %.200q", before, fields)
	}
}

// checkMeant compares what Parse returns with what is defined, and checks that what is read is written, and read again.
func checkMeant(t *testing.T, fields []string) {
	t.Helper()
	want, code := meant(fields)
	checkParse(t, fields, want, code)
	if code == api.OK {
		checkAgain(t, want)
	}
}

// checkAgain checks that an era that is right is written as its line, is read again from it, and from none of its beginnings.
func checkAgain(t *testing.T, e api.Era) {
	t.Helper()
	want, ok := line(e)
	s, code := eraline.Print(e)
	if !ok || s != want || code != api.OK {
		t.Errorf("Print(%v) = %q, %d, want %q, %t", e, s, code, want, ok)
	}
	fields := strings.Split(s, " ")
	checkParse(t, fields, e, api.OK)
	for n := range fields {
		if other, code := eraline.Parse(fields[:n]); code == api.OK && other == e {
			t.Errorf("Parse(%q) = %v, which has the longer line %q", fields[:n], other, s)
		}
	}
}

// checkPrint compares what Print returns with what is defined.
func checkPrint(t *testing.T, e api.Era) {
	t.Helper()
	if want, ok := line(e); ok {
		checkAgain(t, e)
	} else if s, code := eraline.Print(e); s != "" || code != api.ErrArg {
		t.Errorf("Print(%v) = %q, %d, want %q, ErrArg", e, s, code, want)
	}
}

// ordinary returns the fields of an era without anything special.
func ordinary() []string { return strings.Fields("-3:30:52 1:00 NDT 1935 Mar 30 2:00s") }

// right returns this era.
func right() api.Era {
	return api.Era{Off: -12652, Kind: api.Fixed, Save: 3600, Format: "NDT", Until: until(1935, 3, 30, 7200, api.Std)}
}

// until returns the end of an era, on a day of a month.
func until(year, month, day int, sec int64, base int) api.Until {
	return api.Until{Is: true, Year: year, Month: month, Day: api.Day{Kind: api.DayFixed, Day: day}, At: api.Clock{Sec: sec, Base: base}}
}

// with returns the fields of an ordinary era, with another field at a place.
func with(at int, s string) []string {
	fields := ordinary()
	fields[at] = s
	return fields
}

// P11.1, P11.2: the examples, and ordinary eras, each with its line.
func TestParse(t *testing.T) {
	last := api.Until{Is: true, Year: 2149, Month: 2, Day: api.Day{Kind: api.DayLast, Week: 6}, At: api.Clock{Sec: -5400, Base: api.Utc}}
	for _, x := range []struct {
		fields string
		want   api.Era
		line   string
	}{
		{"0:00 - GMT 1968 Oct 27", api.Era{Format: "GMT", Until: until(1968, 10, 27, 0, api.Wall)}, "0:00 - GMT 1968 Oct 27"},
		{"1:00 Eire IST/GMT", api.Era{Off: 3600, Kind: api.Named, Set: "Eire", Format: "IST/GMT"}, "1:00 Eire IST/GMT"},
		{"-3:30:52 1:00 NDT 1935 Mar 30 0:00s", api.Era{Off: -12652, Kind: api.Fixed, Save: 3600, Format: "NDT", Until: until(1935, 3, 30, 0, api.Std)}, "-3:30:52 1:00 NDT 1935 Mar 30 0:00s"},
		{"0 - X 1900 january 1 0", api.Era{Format: "X", Until: until(1900, 1, 1, 0, api.Wall)}, "0:00 - X 1900"},
		{"0 - X 1900", api.Era{Format: "X", Until: until(1900, 1, 1, 0, api.Wall)}, "0:00 - X 1900"},
		{"0 - X 1900 Jan 1 0:00u", api.Era{Format: "X", Until: until(1900, 1, 1, 0, api.Utc)}, "0:00 - X 1900 Jan 1 0:00u"},
		{"0 - X 1900 Jan 2", api.Era{Format: "X", Until: until(1900, 1, 2, 0, api.Wall)}, "0:00 - X 1900 Jan 2"},
		{"0 25 X", api.Era{Kind: api.Fixed, Save: 90000, Format: "X"}, "0:00 25:00 X"},
		{"0 0 X", api.Era{Kind: api.Fixed, Format: "X"}, "0:00 0:00 X"},
		{"167:59:59 -167:59:59 %z 1850 f 1 0", api.Era{Off: 604799, Kind: api.Fixed, Save: -604799, Format: "%z", Until: until(1850, 2, 1, 0, api.Wall)}, "167:59:59 -167:59:59 %z 1850 Feb"},
		{"-1 a " + strings.Repeat("~", 20) + " 2149 FEB LASTsat -1:30z", api.Era{Off: -3600, Kind: api.Named, Set: "a", Format: strings.Repeat("~", 20), Until: last}, "-1:00 a " + strings.Repeat("~", 20) + " 2149 Feb lastSat -1:30u"},
		{"0 Jan - 1900 Jan 1 1", api.Era{Kind: api.Named, Set: "Jan", Format: "-", Until: until(1900, 1, 1, 3600, api.Wall)}, "0:00 Jan - 1900 Jan 1 1:00"},
	} {
		checkParse(t, strings.Fields(x.fields), x.want, api.OK)
		checkMeant(t, strings.Fields(x.fields))
		if s, code := eraline.Print(x.want); s != x.line || code != api.OK {
			t.Errorf("Print(%v) = %q, %d, want %q", x.want, s, code, x.line)
		}
	}
	checkParse(t, ordinary(), right(), api.OK)
}

// P11.1: the wrong fields of the examples, and too few or too many fields.
func TestParseExamples(t *testing.T) {
	for s, code := range map[string]api.Errno{
		"0 -": api.ErrForm, "x - X": api.ErrForm, "0 a! X": api.ErrName, "0 - X 01900": api.ErrForm, "0 - X 1849": api.ErrRange, "0 - X 1900 Ma": api.ErrWord,
		"": api.ErrForm, "0": api.ErrForm, "0 - X 1900 Jan 1 0 0": api.ErrForm, "0 - X 1900 Jan 1 0 -": api.ErrForm,
	} {
		checkParse(t, strings.Fields(s), api.Era{}, code)
		checkMeant(t, strings.Fields(s))
	}
	checkParse(t, []string{"0", "-", "a b"}, api.Era{}, api.ErrFormat)
	checkParse(t, nil, api.Era{}, api.ErrForm)
}

// P11.1: there are three to seven fields; the number of them comes ahead of all errors.
func TestParseCount(t *testing.T) {
	for n := range 20 {
		code := api.ErrForm
		if n >= 3 && n <= 7 {
			code = api.ErrName
		}
		fields := slices.Repeat([]string{"a!"}, n)
		if n > 0 {
			fields[0] = "0"
		}
		checkParse(t, fields, api.Era{}, code)
		checkMeant(t, slices.Concat(ordinary(), ordinary(), ordinary())[:n])
	}
}

// P11.1: what stands behind the length of the slice is neither read nor written.
func TestParseCapacity(t *testing.T) {
	for n := 3; n <= 7; n++ {
		all := append(ordinary()[:n:n], "x", "x", "x", "x", "x")
		checkMeant(t, all[:n])
		if behind := all[n:]; !slices.Equal(behind, []string{"x", "x", "x", "x", "x"}) {
			t.Errorf("Parse of %d fields changes what stands behind them to %q", n, behind)
		}
	}
}

// P11.1: each wrong field alone, also as the last one.
func TestParseWrong(t *testing.T) {
	for at, some := range wrong {
		for s, code := range some {
			for n := max(at+1, 3); n <= 7; n++ {
				checkParse(t, with(at, s)[:n], api.Era{}, code)
				checkMeant(t, with(at, s)[:n])
			}
		}
	}
}

// P11.1: of two wrong fields the first one counts, at whatever places, also if all behind it are wrong.
func TestParseOrder(t *testing.T) {
	for at, some := range wrong {
		for s, code := range some {
			fields := with(at, s)
			for behind := at + 1; behind < 7; behind++ {
				for x := range wrong[behind] {
					two := with(at, s)
					two[behind] = x
					checkParse(t, two, api.Era{}, code)
				}
				fields[behind] = ""
			}
			checkParse(t, fields, api.Era{}, code)
		}
	}
}

// P11.1, P11.3, P11.4: right fields in all mixtures, and of all numbers.
func TestParseRight(t *testing.T) {
	fields := make([]string, 7)
	var choose func(at int)
	choose = func(at int) {
		if at >= 3 {
			checkMeant(t, fields[:at])
			if _, code := eraline.Parse(fields[:at]); code != api.OK {
				t.Errorf("Parse(%q): error %d", fields[:at], code)
			}
		}
		if at == 7 {
			return
		}
		for i, s := range samples[at] {
			// The offsets and the FORMATs are not mixed with each other, so that there are fewer of them.
			if at == atFormat && i%4 != len(fields[atOff])%4 {
				continue
			}
			fields[at] = s
			choose(at + 1)
		}
	}
	choose(0)
}

// P11.1: years on both sides of the limits.
func TestParseYears(t *testing.T) {
	for y := -100; y <= 10100; y++ {
		n := strconv.Itoa(y)
		for _, s := range []string{n, "0" + n, "+" + n, n + "x"} {
			checkMeant(t, with(atYear, s))
			checkMeant(t, with(atYear, s)[:4])
		}
	}
}

// P11.1: fields with one byte changed, put in or left out.
func TestParseNear(t *testing.T) {
	for at, some := range samples {
		for _, s := range some {
			for i := range len(s) + 1 {
				for b := range 256 {
					one := string([]byte{byte(b)})
					checkMeant(t, with(at, s[:i]+one+s[i:]))
					if i < len(s) {
						checkMeant(t, with(at, s[:i]+one+s[i+1:]))
						checkMeant(t, with(at, s[:i]+s[i+1:]))
					}
				}
			}
		}
	}
}

// P11.1: fields of one and of two bytes, at the places where they have a form of their own.
func TestParseShort(t *testing.T) {
	for a := range 256 {
		for _, at := range []int{atRules, atFormat, atYear} {
			checkMeant(t, with(at, string([]byte{byte(a)})))
			for b := range 256 {
				checkMeant(t, with(at, string([]byte{byte(a), byte(b)})))
			}
		}
	}
}

// P11.1: fields that are much too long, and much too many.
func TestParseLong(t *testing.T) {
	const n = 1 << 20
	for at := range 7 {
		for _, s := range []string{"1", "x", "-", "\x00", "\xff", "0", "Jan", "%"} {
			checkMeant(t, with(at, strings.Repeat(s, n)))
		}
	}
	checkParse(t, make([]string, n), api.Era{}, api.ErrForm)
}

// P11.1, P11.2: FORMATs of all lengths, and with each byte at each place.
func TestFormats(t *testing.T) {
	for n := range 40 {
		for b := range 256 {
			for at := range n {
				format := []byte(strings.Repeat("%", n))
				format[at] = byte(b)
				fields := with(atFormat, string(format))
				checkMeant(t, fields)
				e := right()
				e.Format = string(format)
				checkPrint(t, e)
			}
		}
	}
}

// P11.2: one field of an era that is wrong, or at a limit; and all of it zero.
func TestPrintWrong(t *testing.T) {
	checkArg := func(change func(e *api.Era)) {
		t.Helper()
		e := right()
		change(&e)
		if s, code := eraline.Print(e); s != "" || code != api.ErrArg {
			t.Errorf("Print(%v) = %q, %d, want ErrArg", e, s, code)
		}
		checkPrint(t, e)
	}
	checkArg(func(e *api.Era) { *e = api.Era{} })
	for _, x := range []int64{604800, -604800, 1 << 32, math.MaxInt64, math.MinInt64} {
		checkArg(func(e *api.Era) { e.Off = x })
		checkArg(func(e *api.Era) { e.Save = x })
		checkArg(func(e *api.Era) { e.Until.At.Sec = x })
	}
	for _, x := range []int{-1, 3, 4, 1<<32 + 1, math.MaxInt, math.MinInt} {
		checkArg(func(e *api.Era) { e.Kind = x })
		checkArg(func(e *api.Era) { e.Until.At.Base = x })
	}
	// A save, or a set, of another kind of eras.
	checkArg(func(e *api.Era) { e.Kind = api.NoRules })
	checkArg(func(e *api.Era) { e.Kind, e.Set = api.Named, "R" })
	checkArg(func(e *api.Era) { e.Set = "R" })
	checkArg(func(e *api.Era) { e.Kind, e.Save, e.Set = api.NoRules, 0, "R" })
	for _, s := range []string{"", "-", "1:00", "E U", "E.U", "a!", "\u00c9ire", strings.Repeat("E", 31)} {
		checkArg(func(e *api.Era) { e.Kind, e.Save, e.Set = api.Named, 0, s })
	}
	for s := range wrong[atFormat] {
		checkArg(func(e *api.Era) { e.Format = s })
	}
	for _, x := range []int{0, -1, 1, 1849, 2150, 9999, api.Forever, 1<<32 + 1935, math.MaxInt, math.MinInt} {
		checkArg(func(e *api.Era) { e.Until.Year = x })
	}
	for _, x := range []int{0, -1, 13, 1<<32 + 3, 1<<8 + 3, math.MaxInt, math.MinInt} {
		checkArg(func(e *api.Era) { e.Until.Month = x })
	}
	for _, d := range []api.Day{{}, {Kind: 5, Day: 1}, {Kind: api.DayFixed}, {Kind: api.DayFixed, Day: 32}, {Kind: api.DayFixed, Week: 1, Day: 1}, {Kind: api.DayLast, Week: 7}, {Kind: api.DayLast, Day: 1}, {Kind: api.DayFrom, Week: -1, Day: 1}} {
		checkArg(func(e *api.Era) { e.Until.Day = d })
	}
}

// P11.2: without an end all of Until is zero; with one, nothing of it but the time and the weekday is.
func TestPrintUntil(t *testing.T) {
	for _, end := range []api.Until{
		{Is: true}, {Is: true, Year: 1900}, {Is: true, Year: 1900, Month: 1}, until(0, 1, 1, 0, 0), until(1900, 0, 1, 0, 0), until(1900, 1, 0, 0, 0),
		{Year: 1900}, {Month: 1}, {Day: api.Day{Kind: 1}}, {Day: api.Day{Week: 1}}, {Day: api.Day{Day: 1}}, {At: api.Clock{Sec: 1}}, {At: api.Clock{Base: 1}},
		{Year: 1935, Month: 3, Day: api.Day{Kind: api.DayFixed, Day: 30}},
	} {
		e := right()
		e.Until = end
		if s, code := eraline.Print(e); s != "" || code != api.ErrArg {
			t.Errorf("Print(%v) = %q, %d, want ErrArg", e, s, code)
		}
		checkPrint(t, e)
	}
	e := right()
	e.Until = api.Until{}
	if s, code := eraline.Print(e); s != "-3:30:52 1:00 NDT" || code != api.OK {
		t.Errorf("Print(%v) = %q, %d", e, s, code)
	}
	checkPrint(t, e)
}

// P11.2, P11.3, P11.4: eras around and at the limits, with some fields of each kind in all mixtures.
func TestPrintLimits(t *testing.T) {
	amounts := []int64{-604800, -604799, -3600, -1, 0, 1, 60, 3600, 604799, 604800}
	for _, off := range amounts {
		for kind := -1; kind <= 3; kind++ {
			for _, save := range amounts {
				for _, set := range []string{"", "-", "R", "1", strings.Repeat("R", 30), strings.Repeat("R", 31)} {
					for _, end := range []api.Until{{}, until(1900, 1, 1, 0, 0), right().Until} {
						checkPrint(t, api.Era{Off: off, Kind: kind, Save: save, Set: set, Format: "GMT", Until: end})
					}
				}
			}
		}
	}
	days := []api.Day{{}, {Kind: api.DayFixed, Day: 1}, {Kind: api.DayFixed, Day: 2}, {Kind: api.DayFixed, Day: 31}, {Kind: api.DayFixed, Day: 32}, {Kind: api.DayLast, Week: 6}, {Kind: api.DayFrom, Day: 1}, {Kind: api.DayTo, Day: 1}}
	for _, y := range []int{0, 1849, 1850, 1900, 2149, 2150} {
		for m := -1; m <= 14; m++ {
			for _, d := range days {
				for _, sec := range amounts {
					for base := -1; base <= 3; base++ {
						e := right()
						e.Until = api.Until{Is: true, Year: y, Month: m, Day: d, At: api.Clock{Sec: sec, Base: base}}
						checkPrint(t, e)
						e.Until.Is = false
						checkPrint(t, e)
					}
				}
			}
		}
	}
}

// P11.3: eras with the same line are equal.
func TestLines(t *testing.T) {
	eras := map[string]api.Era{}
	check := func(e api.Era) {
		t.Helper()
		s, code := eraline.Print(e)
		if other, ok := eras[s]; code != api.OK || ok && other != e {
			t.Errorf("%v, error %d, has the same line as %v: %q", e, code, other, s)
		}
		eras[s] = e
	}
	ends := []api.Until{{}}
	for m := 1; m <= 12; m++ {
		for _, day := range []int{1, 2, 31} {
			for base := api.Wall; base <= api.Utc; base++ {
				ends = append(ends, until(1850, m, day, 0, base), until(1900, m, day, 1, base))
			}
		}
	}
	for _, off := range []int64{-3600, 0, 1, 3600} {
		for _, format := range []string{"-", "0:00", "Jan", "GMT"} {
			for _, end := range ends {
				check(api.Era{Off: off, Format: format, Until: end})
				check(api.Era{Off: off, Kind: api.Fixed, Format: format, Until: end})
				check(api.Era{Off: off, Kind: api.Fixed, Save: 3600, Format: format, Until: end})
				check(api.Era{Off: off, Kind: api.Named, Set: "Jan", Format: format, Until: end})
			}
		}
	}
}

// R8, R9: equal calls side by side have equal results.
func TestSideBySide(t *testing.T) {
	var group sync.WaitGroup
	for range 8 {
		group.Go(func() {
			for range 100 {
				for at, some := range samples {
					for _, s := range some {
						checkMeant(t, with(at, s))
					}
					for s := range wrong[at] {
						checkMeant(t, with(at, s))
					}
				}
			}
		})
	}
	group.Wait()
}
