package decimal_test

import (
	"math"
	"regexp"
	"strconv"
	"strings"
	"testing"

	"analemma/decimal"
)

// ofNumber restates what has decimal digits, without zeros ahead of other ones.
var ofNumber = regexp.MustCompile(`^(0|[1-9][0-9]*)$`)

func checkParse(t *testing.T, s string, most int) {
	t.Helper()
	want, ok := int64(0), len(s) <= most && ofNumber.MatchString(s)
	if ok {
		want, _ = strconv.ParseInt(s, 10, 64)
	}
	if n, fits := decimal.Parse(s, most); n != want || fits != ok {
		t.Errorf("Parse(%.70q, %d) = %d, %t, want %d, %t", s, most, n, fits, want, ok)
	}
}

// R5, P9.1, P10.1: all strings of few bytes.
func TestParseShort(t *testing.T) {
	const some = "0189/:+-. _x\x00\xb0"
	var choose func(s string)
	choose = func(s string) {
		for most := range 6 {
			checkParse(t, s, most)
		}
		if len(s) < 4 {
			for i := range len(some) {
				choose(s + some[i:i+1])
			}
		}
	}
	choose("")
	for a := range 256 {
		for b := range 256 {
			checkParse(t, string([]byte{byte(a)}), 4)
			checkParse(t, string([]byte{byte(a), byte(b)}), 4)
		}
	}
}

// R5: numbers of all lengths that fit, and strings that are much too long.
func TestParseNumbers(t *testing.T) {
	for n := range 18 {
		for _, s := range []string{"1", "9", "12", "90"} {
			s = strings.Repeat(s, n)
			for most := range 19 {
				checkParse(t, s, most)
				checkParse(t, "0"+s, most)
				checkParse(t, s+"x", most)
			}
		}
	}
	for _, s := range []string{"0", "1", "\u0661"} {
		checkParse(t, strings.Repeat(s, 1<<20), 18)
		checkParse(t, strings.Repeat(s, 1<<20), -1)
	}
}

// R5: numbers around 0, around the powers of 2 and of 10, and at the limits.
func TestPrint(t *testing.T) {
	check := func(n int64) {
		t.Helper()
		if s := decimal.Print(n); s != strconv.FormatInt(n, 10) {
			t.Errorf("Print(%d) = %q", n, s)
		}
	}
	for n := int64(-20000); n <= 20000; n++ {
		check(n)
		check(n + math.MaxInt64 - 20000)
		check(n + math.MinInt64 + 20000)
	}
	for bit := range 64 {
		for n := int64(-3); n <= 3; n++ {
			check(1<<bit + n)
			check(-1<<bit + n)
		}
	}
	for power, i := int64(1), 0; i < 19; power, i = 10*power, i+1 {
		for n := int64(-3); n <= 3; n++ {
			check(power + n)
			check(-power + n)
		}
	}
}
