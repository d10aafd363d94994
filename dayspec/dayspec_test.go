package dayspec_test

import (
	"math"
	"regexp"
	"strconv"
	"strings"
	"sync"
	"testing"

	"analemma/api"
	"analemma/dayform"
	"analemma/dayspec"
	"analemma/word"
)

// The patterns restate how a string is read.
var (
	withPair = regexp.MustCompile(`(?s)^([^<>]*)([<>])=(.*)$`)
	withLast = regexp.MustCompile(`(?s)^[lL][aA][sS][tT](.*)$`)
	ofDay    = regexp.MustCompile(`^[1-9][0-9]?$`)
)

// pairKinds restates which operator belongs to which kind.
var pairKinds = map[string]int{">": api.DayFrom, "<": api.DayTo}

var (
	weekWords  = []string{"sunday", "monday", "tuesday", "wednesday", "thursday", "friday", "saturday"}
	shortWords = []string{"Sun", "Mon", "Tue", "Wed", "Thu", "Fri", "Sat"}
)

func fixed(day int) api.Day      { return api.Day{Kind: api.DayFixed, Day: day} }
func last(week int) api.Day      { return api.Day{Kind: api.DayLast, Week: week} }
func from(week, day int) api.Day { return api.Day{Kind: api.DayFrom, Week: week, Day: day} }
func to(week, day int) api.Day   { return api.Day{Kind: api.DayTo, Week: week, Day: day} }

// meant returns what Parse has to return.
func meant(s string) (api.Day, api.Errno) {
	var d api.Day
	var e api.Errno
	day := s
	if m := withPair.FindStringSubmatch(s); m != nil {
		d.Kind, day = pairKinds[m[2]], m[3]
		d.Week, e = word.Week(m[1])
	} else if m := withLast.FindStringSubmatch(s); m != nil {
		d.Kind, day = api.DayLast, "1"
		d.Week, e = word.Week(m[1])
	} else {
		d.Kind = api.DayFixed
	}
	if e != api.OK {
		return api.Day{}, api.ErrWord
	}
	if !ofDay.MatchString(day) {
		return api.Day{}, api.ErrForm
	}
	n, _ := strconv.Atoi(day)
	if n > 31 {
		return api.Day{}, api.ErrRange
	}
	if d.Kind != api.DayLast {
		d.Day = n
	}
	return d, api.OK
}

func checkParse(t *testing.T, s string, want api.Day, code api.Errno) {
	t.Helper()
	if d, e := dayspec.Parse(s); d != want || e != code {
		t.Errorf("Parse(%.70q) = %v, %d, want %v, %d", s, d, e, want, code)
	}
}

// checkMeant compares what Parse returns with what is defined, and checks that what is read is right, and read again from its canonical string.
func checkMeant(t *testing.T, s string) {
	t.Helper()
	want, code := meant(s)
	checkParse(t, s, want, code)
	if code == api.OK {
		checkAgain(t, want)
	}
}

// checkAgain checks that a form is right, and read again from its canonical string.
func checkAgain(t *testing.T, d api.Day) {
	t.Helper()
	if e := dayform.Check(d); e != api.OK {
		t.Errorf("%v is not right", d)
	}
	s, e := dayspec.Print(d)
	if want := canonical(d); s != want || e != api.OK {
		t.Errorf("Print(%v) = %q, %d, want %q", d, s, e, want)
	}
	checkParse(t, s, d, api.OK)
}

// canonical restates what the canonical string of a right form is.
func canonical(d api.Day) string {
	day := strconv.Itoa(d.Day)
	switch d.Kind {
	case api.DayFixed:
		return day
	case api.DayLast:
		return "last" + shortWords[d.Week]
	case api.DayFrom:
		return shortWords[d.Week] + ">=" + day
	default:
		return shortWords[d.Week] + "<=" + day
	}
}

// forms returns all forms that are right.
func forms() []api.Day {
	var l []api.Day
	for week := range 7 {
		l = append(l, last(week))
	}
	for day := 1; day <= 31; day++ {
		l = append(l, fixed(day))
		for week := range 7 {
			l = append(l, from(week, day), to(week, day))
		}
	}
	return l
}

// each calls f with all strings of at most n of some bytes.
func each(bytes string, n int, f func(s string)) {
	var grow func(s string, more int)
	grow = func(s string, more int) {
		f(s)
		if more > 0 {
			for i := range len(bytes) {
				grow(s+bytes[i:i+1], more-1)
			}
		}
	}
	grow("", n)
}

// allBytes has each byte once.
func allBytes() string {
	b := make([]byte, 256)
	for i := range b {
		b[i] = byte(i)
	}
	return string(b)
}

// cases calls f with a string of small letters in all mixtures of small and capital ones.
func cases(s string, f func(s string)) {
	for mask := range 1 << len(s) {
		b := []byte(s)
		for i := range b {
			if mask>>i&1 == 1 {
				b[i] -= 'a' - 'A'
			}
		}
		f(string(b))
	}
}

// P9.1: ordinary strings of each kind, and those of the examples.
func TestParse(t *testing.T) {
	for _, x := range []struct {
		s    string
		want api.Day
	}{
		{"15", fixed(15)}, {"lastSun", last(0)}, {"Sun>=8", from(0, 8)}, {"sunday<=25", to(0, 25)}, {"LASTm", last(1)},
		{"1", fixed(1)}, {"9", fixed(9)}, {"10", fixed(10)}, {"29", fixed(29)}, {"30", fixed(30)}, {"31", fixed(31)},
		{"lastsaturday", last(6)}, {"Lastsu", last(0)}, {"lAsTTH", last(4)}, {"lastTue", last(2)}, {"lastW", last(3)}, {"lastf", last(5)},
		{"Sun>=1", from(0, 1)}, {"Sat>=31", from(6, 31)}, {"m>=9", from(1, 9)}, {"TU>=10", from(2, 10)}, {"wednes>=23", from(3, 23)}, {"Thursday>=29", from(4, 29)},
		{"Sun<=1", to(0, 1)}, {"Sat<=31", to(6, 31)}, {"M<=9", to(1, 9)}, {"tu<=10", to(2, 10)}, {"FRI<=23", to(5, 23)}, {"saturday<=29", to(6, 29)},
	} {
		checkParse(t, x.s, x.want, api.OK)
		checkMeant(t, x.s)
	}
}

// P9.1: strings in which the word of a weekday is none, whatever else is wrong.
func TestParseWord(t *testing.T) {
	for _, s := range []string{
		"last", "LAST", "lastS", "lastt", "last8", "last0", "last=", "last-", "last ", "last Sun", "lastSun ", "lastSundays", "lastlast", "lastlastSun", "lastJan", "lastSun=8", "lastSun8", "last8Sun",
		">=8", "<=8", ">=", "<=", "S>=8", "t<=8", "S>=99", "t<=0", "x>=", "8>=8", "8<=Sun", ">=Sun", "Jan>=8", "sundays>=8", "day<=8", " Sun>=8", "Sun >=8", "Sun\x00>=8", "Sun=>=8", "Sun=<=8",
		"last>=8", "last<=8", "lastSun>=8", "lastSun<=8", "lastSun>=0", "lastm<=", "last>8", "last<8", "lastSun>", "lastSun<", "lastSun>8", "lastSun< =8", "lastSun<>=8", "last<Sun>=8", "last>Sun<=8", "lastSun><=8", "lastSun>>=8", "last=Sun",
	} {
		checkParse(t, s, api.Day{}, api.ErrWord)
		checkMeant(t, s)
	}
}

// P9.1: strings in which the number of a day is none.
func TestParseForm(t *testing.T) {
	for _, s := range []string{
		"", "0", "00", "05", "01", "001", "032", "Sun", "sunday", "S", "Sun=8", "Sun8", "8Sun", "100", "310", "320", "999", "1000", "-", "-1", "+1", "-8", "+8", "1.", "1e", "0x1", "0b1", "1_", "_1", " 1", "1 ", "1\n", "1\x00", "=", "==", "=8", "8=", "las", "lasSun", "la", "l", "ast", "astSun", " lastSun", "8last", "15lastSun", "xlast",
		">", "<", ">8", "<8", "Sun>", "Sun<", "Sun>8", "Sun<8", "Sun> =8", "Sun=>8", "Sun=<8", "Sun><=8", "Sun<>=8", "Sun>>=8", "Sun<<=8", "Sun>Sun>=8", "Sun<Sun<=8", "8>8", "8>", "8<", "> =8", "<>", "><=",
		"Sun>=", "Sun<=", "Sun>=0", "Sun<=0", "Sun>=08", "Sun<=01", "Sun>=00", "Sun>=100", "Sun<=310", "Sun>==8", "Sun<==8", "Sun>= 8", "Sun>=8 ", "Sun<=8\n", "Sun>=-8", "Sun>=+8", "Sun>=Sun", "Sun>=8>=8", "Sun>=8<=8", "Sun<=8>=8", "Sun>=>=8", "Sun<=<=8", "m>=>8", "m<=<8", "m<=lastSun", "Sun>=last", "Sun>=x8", "Sun>=8x",
	} {
		checkParse(t, s, api.Day{}, api.ErrForm)
		checkMeant(t, s)
	}
}

// P9.1: numbers greater than 31, alone and behind operators.
func TestParseRange(t *testing.T) {
	for day := 32; day <= 99; day++ {
		n := strconv.Itoa(day)
		for _, s := range []string{n, "Sun>=" + n, "Sat<=" + n, "m>=" + n, "THURSDAY<=" + n} {
			checkParse(t, s, api.Day{}, api.ErrRange)
			checkMeant(t, s)
		}
	}
}

// P9.1: all beginnings of all words, with numbers that are days, too great, too long, or have zeros ahead.
func TestParseWords(t *testing.T) {
	words := []string{"sundays", "day", "x", "last", "lastsun"}
	for _, w := range weekWords {
		for n := range len(w) + 1 {
			words = append(words, w[:n], strings.ToUpper(w[:n]))
		}
	}
	for _, w := range words {
		checkMeant(t, w)
		checkMeant(t, "last"+w)
		checkMeant(t, "LAST"+w)
		for n := -2; n <= 130; n++ {
			for _, number := range []string{strconv.Itoa(n), "0" + strconv.Itoa(n)} {
				checkMeant(t, number)
				checkMeant(t, w+number)
				for _, pair := range []string{">=", "<=", ">", "<", "=", "=>", "=<", "><=", ">>="} {
					checkMeant(t, w+pair+number)
				}
			}
		}
	}
}

// P9.1: last and the words of weekdays in letters of any size.
func TestParseCases(t *testing.T) {
	for week, w := range weekWords {
		cases("last", func(s string) {
			checkParse(t, s+w, last(week), api.OK)
			checkParse(t, s+strings.ToUpper(w), last(week), api.OK)
		})
		cases(w, func(s string) {
			checkParse(t, "last"+s, last(week), api.OK)
			checkParse(t, "LAST"+s, last(week), api.OK)
			checkParse(t, s+">=8", from(week, 8), api.OK)
			checkParse(t, s+"<=25", to(week, 25), api.OK)
		})
	}
}

// P9.1: letters and digits that other notions of them take for those of strings.
func TestParseOtherLetters(t *testing.T) {
	for _, s := range []string{"la\u017ftSun", "la\u017ft", "LA\u017fTm", "la\u017fSun", "\uff4cast", "l\u0430stSun", "las\u0442Sun", "las\u0301tSun", "\ufefflastSun", "\xeca\xf3tSun", "l\xe1stSun", "\u0661", "\uff11", "\u00b9", "1\u0661", "\u0661\u0661", "\xb1", "\xb1\xb5", "1\xb5", "Sun\uff1e=8", "Sun>\uff1d8", "Sun\u22658", "Sun\u22648", "Sun\xbe=8", "Sun>\xbd8", "\u00e9"} {
		checkParse(t, s, api.Day{}, api.ErrForm)
		checkMeant(t, s)
	}
	for _, s := range []string{"last\u017fun", "last\u0301Sun", "\u017fun>=8", "\u017fun<=8", "\u017fa>=8", "last\u017fa", "lastSun\u0301", "\ufeffSun>=8", "last\xd3un", "\xf3un>=8", "\xff>=8", "last\xff"} {
		checkParse(t, s, api.Day{}, api.ErrWord)
		checkMeant(t, s)
	}
	for _, s := range []string{"Sun>=\u0661", "Sun<=\uff18", "Sun>=\xb1", "Sun<=1\xb1", "Sun>=\xff"} {
		checkParse(t, s, api.Day{}, api.ErrForm)
		checkMeant(t, s)
	}
}

// P9.1, P9.3: all strings of up to two bytes, and of few bytes of those that strings consist of.
func TestParseAll(t *testing.T) {
	check := func(s string) { checkMeant(t, s) }
	each(allBytes(), 2, check)
	each("0123456789", 3, check)
	each("m<>=109", 6, check)
	each("sua>=3", 6, check)
	each("lastLm", 6, check)
	each("<>=1", 4, func(s string) {
		check("m" + s)
		check("last" + s)
		check("lastm" + s)
	})
}

// P9.1: strings that differ from right ones by one byte, at any place.
func TestParseNear(t *testing.T) {
	for _, s := range []string{"7", "15", "31", "32", "lastSun", "LASTm", "lastwednesday", "Sun>=8", "sunday<=25", "TH>=31", "f<=1", "Sat<=32", "m>=9"} {
		for i := range len(s) + 1 {
			for b := range 256 {
				one := string([]byte{byte(b)})
				checkMeant(t, s[:i]+one+s[i:])
				checkMeant(t, s[:i]+one)
				checkMeant(t, one+s[i:])
				if i < len(s) {
					checkMeant(t, s[:i]+one+s[i+1:])
					checkMeant(t, s[:i]+s[i+1:])
				}
			}
		}
	}
}

// P9.1: strings that are much too long.
func TestParseLong(t *testing.T) {
	const n = 1 << 20
	for _, x := range []struct {
		s    string
		code api.Errno
	}{
		{strings.Repeat("1", n), api.ErrForm}, {strings.Repeat("0", n), api.ErrForm}, {"3" + strings.Repeat("0", n), api.ErrForm}, {strings.Repeat("0", n) + "8", api.ErrForm},
		{strings.Repeat("last", n), api.ErrWord}, {"last" + strings.Repeat("sunday", n), api.ErrWord}, {strings.Repeat("x", n), api.ErrForm},
		{strings.Repeat("x", n) + ">=8", api.ErrWord}, {strings.Repeat(">", n) + "=8", api.ErrForm}, {strings.Repeat("<=", n), api.ErrWord}, {"Sun" + strings.Repeat(">=", n), api.ErrForm},
		{"Sun>=" + strings.Repeat("1", n), api.ErrForm}, {"Sun<=" + strings.Repeat("\x00", n), api.ErrForm}, {strings.Repeat("\xff", n), api.ErrForm}, {strings.Repeat("\xff", n) + "<=8", api.ErrWord},
		{"8" + strings.Repeat("\x00", n), api.ErrForm}, {"lastSun" + strings.Repeat("\x00", n), api.ErrWord},
	} {
		checkParse(t, x.s, api.Day{}, x.code)
	}
}

// P9.2: the canonical strings of forms of each kind, and of those of the examples.
func TestPrint(t *testing.T) {
	for _, x := range []struct {
		d    api.Day
		want string
	}{
		{to(0, 25), "Sun<=25"}, {fixed(1), "1"}, {fixed(9), "9"}, {fixed(10), "10"}, {fixed(31), "31"},
		{last(0), "lastSun"}, {last(1), "lastMon"}, {last(2), "lastTue"}, {last(3), "lastWed"}, {last(4), "lastThu"}, {last(5), "lastFri"}, {last(6), "lastSat"},
		{from(0, 8), "Sun>=8"}, {from(1, 1), "Mon>=1"}, {from(6, 31), "Sat>=31"}, {to(3, 1), "Wed<=1"}, {to(4, 10), "Thu<=10"}, {to(6, 31), "Sat<=31"},
	} {
		if s, e := dayspec.Print(x.d); s != x.want || e != api.OK {
			t.Errorf("Print(%v) = %q, %d, want %q", x.d, s, e, x.want)
		}
	}
}

// P9.2: forms that are not right, around those that are, and far from them.
func TestPrintWrong(t *testing.T) {
	check := func(d api.Day) {
		t.Helper()
		want, code := "", api.ErrArg
		if dayform.Check(d) == api.OK {
			want, code = canonical(d), api.OK
		}
		if s, e := dayspec.Print(d); s != want || e != code {
			t.Errorf("Print(%v) = %q, %d, want %q, %d", d, s, e, want, code)
		}
	}
	for _, d := range []api.Day{{}, fixed(0), fixed(32), last(7), last(-1), from(7, 8), from(0, 0), to(0, 32), to(-1, 8), {Kind: 5, Day: 8}, {Kind: -1, Day: 8}, {Kind: api.DayFixed, Week: 1, Day: 8}, {Kind: api.DayLast, Week: 1, Day: 8}} {
		if s, e := dayspec.Print(d); s != "" || e != api.ErrArg {
			t.Errorf("Print(%v) = %q, %d, want ErrArg", d, s, e)
		}
	}
	for kind := -2; kind <= 7; kind++ {
		for week := -2; week <= 9; week++ {
			for day := -2; day <= 34; day++ {
				check(api.Day{Kind: kind, Week: week, Day: day})
			}
		}
	}
	far := []int{0, 1, 4, 1 << 8, 1<<8 + 1, 1 << 32, 1<<32 + 1, -1 << 32, math.MaxInt, math.MinInt}
	for _, kind := range far {
		for _, week := range far {
			for _, day := range far {
				check(api.Day{Kind: kind, Week: week, Day: day})
			}
		}
	}
}

// P9.3: the canonical string of each right form is read as this form, and no two forms have the same one.
func TestBack(t *testing.T) {
	texts := map[string]api.Day{}
	for _, d := range forms() {
		checkAgain(t, d)
		s, _ := dayspec.Print(d)
		if other, ok := texts[s]; ok {
			t.Errorf("%v and %v are both printed as %q", d, other, s)
		}
		texts[s] = d
	}
}

// P9.3: other strings of a form are read as the same one, for which the canonical string is printed.
func TestCanonical(t *testing.T) {
	for s, want := range map[string]string{
		"LASTm": "lastMon", "lastSATURDAY": "lastSat", "sunday<=25": "Sun<=25", "TH>=8": "Thu>=8", "friday>=31": "Fri>=31", "w<=1": "Wed<=1", "15": "15", "lastSun": "lastSun",
	} {
		d, e := dayspec.Parse(s)
		if got, f := dayspec.Print(d); got != want || e != api.OK || f != api.OK {
			t.Errorf("%q is read as %v, %d, and printed as %q, %d; want %q", s, d, e, got, f, want)
		}
	}
}

// R8, R9: equal calls side by side have equal results.
func TestSideBySide(t *testing.T) {
	all := forms()
	var group sync.WaitGroup
	for range 8 {
		group.Go(func() {
			for range 20 {
				for _, d := range all {
					checkAgain(t, d)
				}
				checkParse(t, "last", api.Day{}, api.ErrWord)
				checkParse(t, "Sun>8", api.Day{}, api.ErrForm)
			}
		})
	}
	group.Wait()
}
