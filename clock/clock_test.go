package clock_test

import (
	"fmt"
	"math"
	"regexp"
	"strings"
	"testing"

	"analemma/api"
	"analemma/clock"
	"analemma/offset"
)

const maxClock = 604799

// bases restates what the letters mean.
var bases = map[string]int{"": 0, "w": 0, "s": 1, "u": 2, "g": 2, "z": 2}

// form restates how a string consists of an amount and a letter.
var form = regexp.MustCompile(`(?s)^(.*?)([wsugz]?)$`)

// meant returns what Parse has to return.
func meant(s string) (api.Clock, api.Errno) {
	m := form.FindStringSubmatch(s)
	sec, e := offset.Parse(m[1])
	if e != api.OK {
		return api.Clock{}, e
	}
	return api.Clock{Sec: sec, Base: bases[m[2]]}, api.OK
}

func checkParse(t *testing.T, s string, want api.Clock, code api.Errno) {
	t.Helper()
	if c, e := clock.Parse(s); c != want || e != code {
		t.Errorf("Parse(%.40q) = %v, %v; want %v, %v", s, c, e, want, code)
	}
}

// checkMeant compares what Parse returns with what is defined, and checks that it is right, and found again from its canonical string.
func checkMeant(t *testing.T, s string) {
	t.Helper()
	want, code := meant(s)
	checkParse(t, s, want, code)
	if code == api.OK {
		checkAgain(t, want)
	}
}

// checkAgain checks that a time of day is right, and found again from its canonical string.
func checkAgain(t *testing.T, c api.Clock) {
	t.Helper()
	if e := clock.Check(c); e != api.OK {
		t.Errorf("Check(%v) = %v", c, e)
	}
	s, e := clock.Print(c)
	if e != api.OK {
		t.Errorf("Print(%v) = %q, %v", c, s, e)
	}
	checkParse(t, s, c, api.OK)
}

// each calls f with all strings of at most n of some bytes.
func each(bytes string, n int, f func(s string)) {
	var grow func(s string, more int)
	grow = func(s string, more int) {
		f(s)
		if more > 0 {
			for i := range len(bytes) {
				grow(s+bytes[i:i+1], more-1)
			}
		}
	}
	grow("", n)
}

// right returns whether a time of day is right, restated.
func right(c api.Clock) bool {
	return -maxClock <= c.Sec && c.Sec <= maxClock && 0 <= c.Base && c.Base <= 2
}

// edges are seconds and bases at the limits, beyond them, and far from them.
func edges() []api.Clock {
	var all []api.Clock
	for _, sec := range []int64{
		0, 1, -1, 59, 60, 3600, -3600, 7200, 86400, -86400, 172800, 172801, -86401, 604798, 604799, 604800, 604801, -604798, -604799, -604800, -604801,
		1 << 31, 1 << 32, 1<<32 + 1, -1 << 32, 1<<32 - 1, math.MaxInt64, math.MaxInt64 - 1, math.MinInt64, math.MinInt64 + 1,
	} {
		for _, base := range []int{0, 1, 2, 3, 4, -1, -2, 255, 256, 257, 1 << 32, 1<<32 + 1, -1 << 32, math.MaxInt, math.MinInt, 's', 'u'} {
			all = append(all, api.Clock{Sec: sec, Base: base})
		}
	}
	return all
}

// P6.1: times of day at the limits and beyond them, with all bases and others.
func TestCheck(t *testing.T) {
	for _, c := range []api.Clock{{}, {Sec: 7200}, {Sec: -5400, Base: api.Std}, {Sec: 3600, Base: api.Utc}, {Sec: 604799, Base: 2}, {Sec: -604799, Base: 1}} {
		if e := clock.Check(c); e != api.OK {
			t.Errorf("Check(%v) = %v", c, e)
		}
	}
	for _, c := range []api.Clock{{Base: 3}, {Base: -1}, {Sec: 604800}, {Sec: -604800}, {Sec: math.MaxInt64}, {Sec: math.MinInt64, Base: 2}, {Sec: 604800, Base: 3}} {
		if e := clock.Check(c); e != api.ErrArg {
			t.Errorf("Check(%v) = %v, want ErrArg", c, e)
		}
	}
	for _, c := range edges() {
		want := api.OK
		if !right(c) {
			want = api.ErrArg
		}
		if e := clock.Check(c); e != want {
			t.Errorf("Check(%v) = %v, want %v", c, e, want)
		}
	}
}

// P6.2: ordinary strings, and those of the examples.
func TestParse(t *testing.T) {
	for _, x := range []struct {
		s    string
		want api.Clock
	}{
		{"2:00", api.Clock{Sec: 7200, Base: api.Wall}}, {"2:00s", api.Clock{Sec: 7200, Base: api.Std}}, {"1:00u", api.Clock{Sec: 3600, Base: api.Utc}},
		{"0z", api.Clock{Sec: 0, Base: api.Utc}}, {"-1:30w", api.Clock{Sec: -5400, Base: api.Wall}},
		{"0", api.Clock{}}, {"0w", api.Clock{}}, {"0s", api.Clock{Base: api.Std}}, {"0u", api.Clock{Base: api.Utc}}, {"0g", api.Clock{Base: api.Utc}},
		{"24:00", api.Clock{Sec: 86400}}, {"24s", api.Clock{Sec: 86400, Base: api.Std}}, {"-2:30:15g", api.Clock{Sec: -9015, Base: api.Utc}},
		{"0:00:01s", api.Clock{Sec: 1, Base: api.Std}}, {"-0:00:01z", api.Clock{Sec: -1, Base: api.Utc}}, {"12:34:56w", api.Clock{Sec: 45296}},
		{"167:59:59", api.Clock{Sec: maxClock}}, {"167:59:59w", api.Clock{Sec: maxClock}}, {"167:59:59s", api.Clock{Sec: maxClock, Base: api.Std}},
		{"-167:59:59u", api.Clock{Sec: -maxClock, Base: api.Utc}}, {"-167:59:59g", api.Clock{Sec: -maxClock, Base: api.Utc}}, {"167:59:59z", api.Clock{Sec: maxClock, Base: api.Utc}},
	} {
		checkParse(t, x.s, x.want, api.OK)
		checkMeant(t, x.s)
	}
}

// P6.2: amounts beyond the limits, with each letter.
func TestParseRange(t *testing.T) {
	for _, amount := range []string{"168", "168:00", "168:00:00", "-168:00", "-168", "999:59:59", "-999:59:59", "200:30"} {
		for letter := range bases {
			checkParse(t, amount+letter, api.Clock{}, api.ErrRange)
		}
	}
}

// P6.2: strings that are none of a time of day.
func TestParseForm(t *testing.T) {
	for _, s := range []string{
		"", "s", "w", "u", "g", "z", "-", "-s", "-0", "-0s", "-0:00u", "2:00x", "2:00ss", "2:00ws", "2:00sw", "2:00uu", "2:00 s", "2:00s ", " 2:00s", "s2:00", "2s:00", "2:s00",
		"02:00", "02:00s", "2:0s", "2:60s", "2:00:s", "2:00:0s", "2:00:60s", ":s", "2:s", "1000s", "+2s", "2:00:00:00u",
		"2:00S", "2:00W", "2:00U", "2:00G", "2:00Z", "2:00v", "2:00t", "2:00r", "2:00y", "2:00h", "2:00f", "2:00-", "2:00\n", "2:00s\n", "2:00\x00", "2:00s\x00",
		"2:00\u0175", "2:00\u0173", "2:00\u017f", "2:00\xff", "2:00s\xff", "2:00\xf3", "2:00\xf7", "2:00\xf5", "\xff", "2:00\u0273", "168:00x", "168:00ss", "168:00:s",
		strings.Repeat("s", 1<<20), strings.Repeat("0", 1<<20) + "s", "0" + strings.Repeat("u", 1<<20),
	} {
		checkParse(t, s, api.Clock{}, api.ErrForm)
	}
}

// P6.2, P6.4, P6.5: all strings of few bytes; what is parsed is right, and found again.
func TestParseAll(t *testing.T) {
	each("-:016wsugzx", 5, func(s string) {
		checkMeant(t, s)
	})
}

// P6.2: strings that differ from right ones by one byte, at any place.
func TestParseNear(t *testing.T) {
	for _, amount := range []string{"0", "7", "10", "-1", "2:00", "-5:30", "10:09", "0:00:09", "-12:34:56", "167:59:59", "168:00", "-168:00:00"} {
		for letter := range bases {
			s := amount + letter
			for i := range len(s) + 1 {
				for b := range 256 {
					one := string([]byte{byte(b)})
					checkMeant(t, s[:i]+one+s[i:])
					if i < len(s) {
						checkMeant(t, s[:i]+one+s[i+1:])
						checkMeant(t, s[:i]+s[i+1:])
					}
				}
			}
		}
	}
}

// P6.3: ordinary times of day, those of the examples, and those that are not right.
func TestPrint(t *testing.T) {
	for _, x := range []struct {
		c    api.Clock
		want string
	}{
		{api.Clock{Sec: 7200, Base: api.Std}, "2:00s"}, {api.Clock{Base: api.Utc}, "0:00u"}, {api.Clock{Sec: -1}, "-0:00:01"},
		{api.Clock{}, "0:00"}, {api.Clock{Base: api.Std}, "0:00s"}, {api.Clock{Sec: 86400}, "24:00"}, {api.Clock{Sec: -9015, Base: api.Utc}, "-2:30:15u"},
		{api.Clock{Sec: maxClock}, "167:59:59"}, {api.Clock{Sec: -maxClock, Base: api.Std}, "-167:59:59s"}, {api.Clock{Sec: maxClock, Base: api.Utc}, "167:59:59u"},
	} {
		if s, e := clock.Print(x.c); s != x.want || e != api.OK {
			t.Errorf("Print(%v) = %q, %v; want %q", x.c, s, e, x.want)
		}
	}
	for _, c := range []api.Clock{{Base: 3}, {Sec: 604800}, {Sec: -604800, Base: api.Utc}, {Sec: 7200, Base: -1}} {
		if s, e := clock.Print(c); s != "" || e != api.ErrArg {
			t.Errorf("Print(%v) = %q, %v; want ErrArg", c, s, e)
		}
	}
	for _, c := range edges() {
		if right(c) {
			checkAgain(t, c)
		} else if s, e := clock.Print(c); s != "" || e != api.ErrArg {
			t.Errorf("Print(%v) = %q, %v; want ErrArg", c, s, e)
		}
	}
}

// P6.3, P6.4: each time of day that is right has the string that is defined, is found again from it, and shares it with no other one.
func TestPrintAll(t *testing.T) {
	seen := map[string]bool{}
	for sec := int64(-maxClock); sec <= maxClock; sec += 7 {
		for base, letter := range []string{"", "s", "u"} {
			c := api.Clock{Sec: sec, Base: base}
			s, e := clock.Print(c)
			if want := defined(sec) + letter; s != want || e != api.OK {
				t.Fatalf("Print(%v) = %q, %v; want %q", c, s, e, want)
			}
			if seen[s] {
				t.Fatalf("Print(%v) = %q, as of another time of day", c, s)
			}
			seen[s] = true
			checkAgain(t, c)
		}
	}
}

// defined restates the string of an amount.
func defined(sec int64) string {
	sign := ""
	if sec < 0 {
		sign, sec = "-", -sec
	}
	s := fmt.Sprintf("%s%d:%02d", sign, sec/3600, sec/60%60)
	if sec%60 != 0 {
		s += fmt.Sprintf(":%02d", sec%60)
	}
	return s
}

// P6.5: with w a string means the same as without it, and with g or z as with u, whatever is ahead of the letter.
func TestLetters(t *testing.T) {
	check := func(s, same string) {
		c, e := clock.Parse(s)
		if d, f := clock.Parse(same); c != d || e != f {
			t.Errorf("Parse(%q) = %v, %v; Parse(%q) = %v, %v", s, c, e, same, d, f)
		}
	}
	each("-:0169", 6, func(amount string) {
		check(amount+"w", amount)
		check(amount+"g", amount+"u")
		check(amount+"z", amount+"u")
	})
}
