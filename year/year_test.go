package year_test

import (
	"math"
	"regexp"
	"strconv"
	"strings"
	"sync"
	"testing"

	"analemma/api"
	"analemma/year"
)

// ofYear restates how a year is written.
var ofYear = regexp.MustCompile(`^[1-9][0-9]{0,3}$`)

// meant returns what Parse has to return.
func meant(s string) (int, api.Errno) {
	if !ofYear.MatchString(s) {
		return 0, api.ErrForm
	}
	y, _ := strconv.Atoi(s)
	if y < 1850 || y > 2149 {
		return 0, api.ErrRange
	}
	return y, api.OK
}

func checkMeant(t *testing.T, s string) {
	t.Helper()
	want, code := meant(s)
	if y, e := year.Parse(s); y != want || e != code {
		t.Errorf("Parse(%.70q) = %d, %d, want %d, %d", s, y, e, want, code)
	}
}

// P10.1: numbers on both sides of the limits, also with signs, zeros and other bytes.
func TestParseNumbers(t *testing.T) {
	for y := -12000; y <= 120000; y++ {
		checkMeant(t, strconv.Itoa(y))
	}
	for y := range 10000 {
		n := strconv.Itoa(y)
		for _, s := range []string{"0" + n, "+" + n, "-" + n, " " + n, n + " ", n + "\n", n + "\x00", n + ".", n + "e0", n + "_", "0x" + n} {
			checkMeant(t, s)
		}
	}
}

// P10.1: strings that are no years.
func TestParseForm(t *testing.T) {
	for _, s := range []string{
		"", "0", "00", "01918", "0191", "10000", "19180", "+1918", "-1918", "1_918", "19_8", "1918_", "1 918", "191O", "l918", "19.8", "1918.", "1e3", "0x77", "0b11", "\u0661918", "\uff11918", "191\xb8", "191\u0668", "max", "only", "-", "--1918", "+-1918",
		"9223372036854775807", "9223372036854775808", "18446744073709553534", "4294969214",
		strings.Repeat("1", 1<<20), strings.Repeat("0", 1<<20) + "1918", "1918" + strings.Repeat("\x00", 1<<20),
	} {
		if y, e := year.Parse(s); y != 0 || e != api.ErrForm {
			t.Errorf("Parse(%.70q) = %d, %d, want ErrForm", s, y, e)
		}
		checkMeant(t, s)
	}
}

// P10.1: years with one byte changed, put in or left out.
func TestParseNear(t *testing.T) {
	for _, s := range []string{"1850", "1849", "1972", "2149", "2150", "7"} {
		for i := range len(s) + 1 {
			for b := range 256 {
				one := string([]byte{byte(b)})
				checkMeant(t, s[:i]+one+s[i:])
				if i < len(s) {
					checkMeant(t, s[:i]+one+s[i+1:])
					checkMeant(t, s[:i]+s[i+1:])
				}
			}
		}
	}
}

// P10.2, P10.3: years that are named are written, and read again; other ones are not written.
func TestPrint(t *testing.T) {
	check := func(y int) {
		t.Helper()
		want, code := "", api.ErrArg
		if y >= 1850 && y <= 2149 {
			want, code = strconv.Itoa(y), api.OK
			checkMeant(t, want)
		}
		if s, e := year.Print(y); s != want || e != code {
			t.Errorf("Print(%d) = %q, %d, want %q, %d", y, s, e, want, code)
		}
	}
	for y := -3000; y <= 12000; y++ {
		check(y)
	}
	for _, y := range []int{api.Forever, 1<<32 + 1918, -1<<32 + 1918, math.MaxInt, math.MinInt} {
		check(y)
	}
}

// R8, R9: equal calls side by side have equal results.
func TestSideBySide(t *testing.T) {
	var group sync.WaitGroup
	for range 8 {
		group.Go(func() {
			for y := range 3000 {
				checkMeant(t, strconv.Itoa(y))
			}
		})
	}
	group.Wait()
}
