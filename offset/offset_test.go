package offset_test

import (
	"fmt"
	"math"
	"regexp"
	"strconv"
	"strings"
	"testing"

	"analemma/api"
	"analemma/offset"
)

// form restates the form of an amount, but for its last sentence: that a minus sign needs a number that is not 0.
var form = regexp.MustCompile(`^(-?)(0|[1-9][0-9]{0,2})(?::([0-5][0-9])(?::([0-5][0-9]))?)?$`)

// meant returns what Parse has to return.
func meant(s string) (int64, api.Errno) {
	m := form.FindStringSubmatch(s)
	if m == nil {
		return 0, api.ErrForm
	}
	x := int64(0)
	for i, seconds := range []int64{3600, 60, 1} {
		n, _ := strconv.ParseInt("0"+m[i+2], 10, 64)
		x += n * seconds
	}
	switch {
	case m[1] == "-" && x == 0:
		return 0, api.ErrForm
	case x > 604799:
		return 0, api.ErrRange
	case m[1] == "-":
		return -x, api.OK
	}
	return x, api.OK
}

func checkParse(t *testing.T, s string, want int64, code api.Errno) {
	t.Helper()
	if x, e := offset.Parse(s); x != want || e != code {
		t.Errorf("Parse(%.40q) = %d, %v; want %d, %v", s, x, e, want, code)
	}
}

// P4.1: ordinary strings, and those of the examples.
func TestParse(t *testing.T) {
	for _, x := range []struct {
		s    string
		want int64
	}{
		{"0", 0}, {"1", 3600}, {"1:30", 5400}, {"-1:30", -5400}, {"0:00:01", 1}, {"-0:00:01", -1},
		{"0:00", 0}, {"0:00:00", 0}, {"-0:01", -60}, {"-1", -3600}, {"-1:00:00", -3600}, {"9:59:59", 35999},
		{"10", 36000}, {"12:34:56", 45296}, {"-12:34:56", -45296}, {"24", 86400}, {"99", 356400}, {"100", 360000},
		{"-0:09:21", -561}, {"5:53:28", 21208}, {"0:59:59", 3599}, {"2:05:08", 7508},
		{"167:59:59", 604799}, {"-167:59:59", -604799}, {"167:59:58", 604798}, {"167", 601200}, {"-167:59", -604740},
	} {
		checkParse(t, x.s, x.want, api.OK)
	}
}

// P4.1: amounts that have the form, but are beyond the limits.
func TestParseRange(t *testing.T) {
	for _, s := range []string{
		"168", "168:00", "168:00:00", "168:00:01", "169", "200:30", "999:59:59", "999",
		"-168", "-168:00", "-168:00:00", "-168:00:01", "-999:59:59",
	} {
		checkParse(t, s, 0, api.ErrRange)
	}
}

// P4.1: strings without the form of an amount; some are out of range, too, were their form right.
func TestParseForm(t *testing.T) {
	for _, s := range []string{
		"", "-", "--", ":", "-0", "-0:00", "-0:00:00", "01", "00", "000", "001", "-01", "-01:00", "00:01", "010:00",
		"1:5", "1:60", "1:99", "1:00:", "1:00:5", "1:00:60", "1:", "1:000", "1:00:000", ":30", "1::30", "1:00::00", "-:30",
		"+1", "+0", "--1", "1-", "1:-5", "1:+5", "-+1", "1:00-", "1000", "0000", "1000:00", "-1000", "1:00:00:00", "1:00:00:", "999:60", "1000:60",
		" 1", "1 ", "1: 0", "1\n", "1\x00", "\x001", "1:00s", "1s", "1.5", "1:00.5", "1,5", "1;00", "1/00", "0x1", "1e2", "1_0",
		"\u0661", "1:\u0660\u0660", "\u22121", "\uff11", "1\uff1a00", "\xff", "1\xff",
		"18446744073709551616", "18446744073709551617:00", "-9223372036854775808", "1:4294967296", "1:00:18446744073709551616",
		strings.Repeat("0", 1<<20), strings.Repeat("1", 1<<20), "1" + strings.Repeat(":00", 1<<20), strings.Repeat("-", 1<<20),
	} {
		checkParse(t, s, 0, api.ErrForm)
	}
}

// P4.1: all strings of few bytes.
func TestParseAll(t *testing.T) {
	const bytes = "-:01569"
	var grow func(s string, more int)
	grow = func(s string, more int) {
		want, code := meant(s)
		checkParse(t, s, want, code)
		if more > 0 {
			for i := range len(bytes) {
				grow(s+bytes[i:i+1], more-1)
			}
		}
	}
	grow("", 7)
}

// P4.1: right strings, and those that differ from them by one byte.
func TestParseNear(t *testing.T) {
	for _, s := range []string{
		"0", "7", "10", "100", "0:00", "5:30", "10:09", "167:59", "0:00:00", "0:00:09", "3:07:04", "12:34:56", "167:59:59", "168:00:00",
	} {
		for _, s := range []string{s, "-" + s} {
			for i := range len(s) + 1 {
				for b := range 256 {
					one := string([]byte{byte(b)})
					checkMeant(t, s[:i]+one+s[i:])
					if i < len(s) {
						checkMeant(t, s[:i]+one+s[i+1:])
						checkMeant(t, s[:i]+s[i+1:])
					}
				}
			}
		}
	}
}

func checkMeant(t *testing.T, s string) {
	t.Helper()
	want, code := meant(s)
	checkParse(t, s, want, code)
}

// P4.2: ordinary amounts, those of the examples, and those beyond the limits.
func TestPrint(t *testing.T) {
	for _, x := range []struct {
		x    int64
		want string
	}{
		{0, "0:00"}, {3600, "1:00"}, {-5400, "-1:30"}, {1, "0:00:01"}, {-604799, "-167:59:59"}, {604799, "167:59:59"},
		{-1, "-0:00:01"}, {59, "0:00:59"}, {60, "0:01"}, {61, "0:01:01"}, {-60, "-0:01"}, {3599, "0:59:59"}, {-3599, "-0:59:59"},
		{3601, "1:00:01"}, {-3600, "-1:00"}, {36000, "10:00"}, {35940, "9:59"}, {360000, "100:00"}, {-359999, "-99:59:59"}, {45296, "12:34:56"}, {21208, "5:53:28"}, {-561, "-0:09:21"},
	} {
		if s, e := offset.Print(x.x); s != x.want || e != api.OK {
			t.Errorf("Print(%d) = %q, %v; want %q", x.x, s, e, x.want)
		}
	}
	for _, x := range []int64{604800, -604800, 604801, -604801, 1 << 32, -1 << 32, 1<<32 + 3600, math.MaxInt64, -math.MaxInt64, math.MinInt64, math.MinInt64 + 1} {
		if s, e := offset.Print(x); s != "" || e != api.ErrRange {
			t.Errorf("Print(%d) = %q, %v; want ErrRange", x, s, e)
		}
	}
}

// P4.2, P4.3: all amounts have the string that is defined, and what Print returns is read as the same amount, so that different ones have different strings.
func TestPrintAll(t *testing.T) {
	seen := map[string]bool{}
	for x := int64(-604799); x <= 604799; x++ {
		s, e := offset.Print(x)
		if want := defined(x); s != want || e != api.OK {
			t.Fatalf("Print(%d) = %q, %v; want %q", x, s, e, want)
		}
		if y, e := offset.Parse(s); y != x || e != api.OK {
			t.Fatalf("Parse(Print(%d)) = %d, %v", x, y, e)
		}
		if seen[s] {
			t.Fatalf("Print(%d) = %q, as of another amount", x, s)
		}
		seen[s] = true
	}
}

// defined restates the string of an amount.
func defined(x int64) string {
	sign := ""
	if x < 0 {
		sign, x = "-", -x
	}
	s := fmt.Sprintf("%s%d:%02d", sign, x/3600, x/60%60)
	if x%60 != 0 {
		s += fmt.Sprintf(":%02d", x%60)
	}
	return s
}

// P4.4: strings that were read are printed as they were, but for minutes left out, and seconds that are 00.
func TestReadAndPrinted(t *testing.T) {
	for h := range 168 {
		for _, sign := range []string{"", "-"} {
			hours := sign + strconv.Itoa(h)
			checkPrinted(t, hours, hours+":00")
			for m := range 60 {
				minutes := fmt.Sprintf("%s:%02d", hours, m)
				checkPrinted(t, minutes, minutes)
				checkPrinted(t, minutes+":00", minutes)
				for sec := 1; sec < 60; sec++ {
					seconds := fmt.Sprintf("%s:%02d", minutes, sec)
					checkPrinted(t, seconds, seconds)
				}
			}
		}
	}
}

// checkPrinted compares the string of an amount that was read with the one that it has to be; -0 is no amount.
func checkPrinted(t *testing.T, read, want string) {
	t.Helper()
	x, e := offset.Parse(read)
	if want == "-0:00" {
		if x != 0 || e != api.ErrForm {
			t.Fatalf("Parse(%q) = %d, %v; want ErrForm", read, x, e)
		}
		return
	}
	if e != api.OK {
		t.Fatalf("Parse(%q) = %d, %v", read, x, e)
	}
	if s, e := offset.Print(x); s != want || e != api.OK {
		t.Fatalf("Print(Parse(%q)) = %q, %v; want %q", read, s, e, want)
	}
}
