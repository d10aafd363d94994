package word_test

import (
	"math"
	"strings"
	"sync"
	"testing"

	"analemma/api"
	"analemma/word"
)

// list is a list of words: its function, and its words, with the number of the first one.
type list struct {
	title string
	call  func(s string) (int, api.Errno)
	first int
	words []string
}

func lists() []list {
	return []list{
		{"Line", word.Line, 1, []string{"rule", "zone", "link", "shift"}},
		{"Month", word.Month, 1, []string{"january", "february", "march", "april", "may", "june", "july", "august", "september", "october", "november", "december"}},
		{"Week", word.Week, 0, []string{"sunday", "monday", "tuesday", "wednesday", "thursday", "friday", "saturday"}},
		{"To", word.To, 1, []string{"only", "maximum"}},
	}
}

// small is a string with small letters in place of the capital ones from A to Z.
func small(s string) string {
	b := []byte(s)
	for i, c := range b {
		if strings.IndexByte("ABCDEFGHIJKLMNOPQRSTUVWXYZ", c) >= 0 {
			b[i] = c | 32
		}
	}
	return string(b)
}

// means is the definition, restated: the number of the word of a list that a string means.
func (l list) means(s string) (int, api.Errno) {
	low := small(s)
	var some []int
	for i, w := range l.words {
		if w == low {
			return l.first + i, api.OK
		}
		if low != "" && strings.HasPrefix(w, low) {
			some = append(some, l.first+i)
		}
	}
	if len(some) != 1 {
		return 0, api.ErrWord
	}
	return some[0], api.OK
}

// checkAll compares each function's result with what is defined.
func checkAll(t *testing.T, all []list, s string) {
	t.Helper()
	for _, l := range all {
		want, wantE := l.means(s)
		if got, e := l.call(s); got != want || e != wantE {
			t.Errorf("%s(%.70q) = %d, %d, want %d, %d", l.title, s, got, e, want, wantE)
		}
	}
}

// row is a string with the number of the word that it means, or none.
type row struct {
	s    string
	want int
}

const none = -1

// checkRows checks one function for some strings.
func checkRows(t *testing.T, title string, call func(s string) (int, api.Errno), rows []row) {
	t.Helper()
	for _, r := range rows {
		want, wantE := r.want, api.OK
		if r.want == none {
			want, wantE = 0, api.ErrWord
		}
		if got, e := call(r.s); got != want || e != wantE {
			t.Errorf("%s(%.70q) = %d, %d, want %d, %d", title, r.s, got, e, want, wantE)
		}
	}
}

// P8.1: words of lines.
func TestLine(t *testing.T) {
	checkRows(t, "Line", word.Line, []row{
		{"Rule", 1}, {"z", 2}, {"LI", 3}, {"rules", none}, {"", none},
		{"rule", 1}, {"zone", 2}, {"link", 3}, {"shift", 4}, {"RULE", 1}, {"Zone", 2}, {"Link", 3}, {"Shift", 4},
		{"r", 1}, {"ru", 1}, {"rul", 1}, {"R", 1}, {"Z", 2}, {"zo", 2}, {"zon", 2}, {"l", 3}, {"L", 3}, {"lin", 3}, {"s", 4}, {"S", 4}, {"sh", 4}, {"shi", 4}, {"ShIf", 4},
		{"zones", none}, {"links", none}, {"shifts", none}, {"ule", none}, {"one", none}, {"rl", none}, {"re", none}, {"rulf", none}, {"rula", none},
		{"-", none}, {"#", none}, {"0", none}, {"leap", none}, {"expires", none}, {"january", none}, {"sunday", none}, {"only", none}, {"max", none},
	})
}

// P8.1: words of months.
func TestMonth(t *testing.T) {
	checkRows(t, "Month", word.Month, []row{
		{"Jan", 1}, {"ja", 1}, {"j", none}, {"jun", 6}, {"ju", none}, {"ma", none}, {"may", 5}, {"D", 12},
		{"january", 1}, {"february", 2}, {"march", 3}, {"april", 4}, {"May", 5}, {"June", 6}, {"July", 7}, {"August", 8}, {"September", 9}, {"OCTOBER", 10}, {"November", 11}, {"December", 12},
		{"f", 2}, {"m", none}, {"a", none}, {"J", none}, {"A", none}, {"M", none}, {"Ju", none}, {"MA", none}, {"s", 9}, {"o", 10}, {"n", 11},
		{"ap", 4}, {"au", 8}, {"mar", 3}, {"jul", 7}, {"sept", 9}, {"Octo", 10},
		{"", none}, {"maya", none}, {"mayo", none}, {"january1", none}, {"februar", 2}, {"febuary", none}, {"Sepember", none}, {"1", none}, {"12", none}, {"sun", none}, {"jam", none}, {"junu", none}, {"juli", none}, {"decembers", none},
	})
}

// P8.1: words of weekdays.
func TestWeek(t *testing.T) {
	checkRows(t, "Week", word.Week, []row{
		{"SUN", 0}, {"s", none}, {"t", none}, {"th", 4}, {"m", 1}, {"sundays", none},
		{"sunday", 0}, {"monday", 1}, {"tuesday", 2}, {"wednesday", 3}, {"thursday", 4}, {"friday", 5}, {"saturday", 6},
		{"Sunday", 0}, {"MONDAY", 1}, {"Tue", 2}, {"wEd", 3}, {"Thur", 4}, {"Fri", 5}, {"Sat", 6},
		{"su", 0}, {"sa", 6}, {"tu", 2}, {"w", 3}, {"f", 5}, {"S", none}, {"T", none},
		{"", none}, {"day", none}, {"lastSun", none}, {"Sun>=1", none}, {"0", none}, {"6", none}, {"jan", none}, {"thirsday", none}, {"fridai", none}, {"saturdayy", none},
	})
}

// P8.1: words of years.
func TestTo(t *testing.T) {
	checkRows(t, "To", word.To, []row{
		{"only", 1}, {"max", 2}, {"m", 2}, {"minimum", none},
		{"o", 1}, {"on", 1}, {"onl", 1}, {"O", 1}, {"ONLY", 1}, {"ma", 2}, {"maxi", 2}, {"maxim", 2}, {"maximu", 2}, {"maximum", 2}, {"MAXIMUM", 2}, {"M", 2},
		{"", none}, {"only ", none}, {" only", none}, {"onlyy", none}, {"maximums", none}, {"min", none}, {"1", none}, {"2", none}, {"2007", none}, {"-", none}, {"may", none}, {"mi", none},
	})
}

// each calls f with all strings of at most n of some bytes.
func each(bytes string, n int, f func(s string)) {
	var grow func(s string, more int)
	grow = func(s string, more int) {
		f(s)
		if more > 0 {
			for i := range len(bytes) {
				grow(s+bytes[i:i+1], more-1)
			}
		}
	}
	grow("", n)
}

// allBytes has each byte once.
func allBytes() string {
	b := make([]byte, 256)
	for i := range b {
		b[i] = byte(i)
	}
	return string(b)
}

// P8.1: all strings of up to two bytes, of up to four small letters, and of up to seven of the letters of some words.
func TestShortStrings(t *testing.T) {
	all := lists()
	compare := func(s string) { checkAll(t, all, s) }
	each(allBytes(), 2, compare)
	each("abcdefghijklmnopqrstuvwxyz", 4, compare)
	each("mayr", 7, compare)
	each("junely", 6, compare)
	each("sundaY", 6, compare)
	each("MaxIuO", 6, compare)
}

// P8.1: words with one byte changed, put in or left out, for all bytes.
func TestNearWords(t *testing.T) {
	all := lists()
	for _, l := range all {
		for _, w := range l.words {
			for i := range len(w) + 1 {
				for c := range 256 {
					checkAll(t, all, w[:i]+string([]byte{byte(c)})+w[i:])
					if i < len(w) {
						checkAll(t, all, w[:i]+string([]byte{byte(c)})+w[i+1:])
						checkAll(t, all, w[:i]+string([]byte{byte(c)}))
					}
				}
				if i < len(w) {
					checkAll(t, all, w[:i]+w[i+1:])
				}
				checkAll(t, all, w[i:])
			}
		}
	}
}

// cases calls f with a string in all mixtures of small and capital letters.
func cases(s string, f func(s string)) {
	for mask := range 1 << len(s) {
		b := []byte(s)
		for i := range b {
			if mask>>i&1 == 1 {
				b[i] -= 'a' - 'A'
			}
		}
		f(string(b))
	}
}

// P8.1: all beginnings of all words, in whatever case.
func TestCases(t *testing.T) {
	all := lists()
	for _, l := range all {
		for _, w := range l.words {
			for n := range len(w) + 1 {
				cases(w[:n], func(s string) { checkAll(t, all, s) })
			}
		}
	}
}

// P8.1: letters beyond A to Z that other notions of case take for those of words, and bytes with another bit set.
func TestOtherLetters(t *testing.T) {
	for _, s := range []string{"lin\u212a", "LIN\u212a", "\u017funday", "\u017fhift", "\u017f", "S\u0130", "max\u0130mum", "ma\u0445", "\u0399", "\uff52ule", "\uff32ule", "\x92ule", "\xf2ule", "rule\u0301", "rul\u0435", "\ufeffrule", "janu\u00e1ry", "m\u00e4rz"} {
		for _, l := range lists() {
			if got, e := l.call(s); got != 0 || e != api.ErrWord {
				t.Errorf("%s(%q) = %d, %d, want 0, ErrWord", l.title, s, got, e)
			}
		}
	}
}

// P8.1: strings that are much too long.
func TestLongStrings(t *testing.T) {
	all := lists()
	for _, l := range all {
		for _, w := range l.words {
			for _, more := range []string{" ", "\x00", "\n", "s", w, strings.Repeat("s", 1<<16), strings.Repeat("\x00", 1<<16)} {
				checkAll(t, all, w+more)
				checkAll(t, all, more+w)
			}
		}
	}
	checkAll(t, all, strings.Repeat("january", 1<<18))
}

// P8.2: the short words of months, and no words of other numbers.
func TestMonthText(t *testing.T) {
	checkText(t, "MonthText", word.MonthText, map[int]string{
		1: "Jan", 2: "Feb", 3: "Mar", 4: "Apr", 5: "May", 6: "Jun", 7: "Jul", 8: "Aug", 9: "Sep", 10: "Oct", 11: "Nov", 12: "Dec",
	})
}

// P8.2: the short words of weekdays, and no words of other numbers.
func TestWeekText(t *testing.T) {
	checkText(t, "WeekText", word.WeekText, map[int]string{
		0: "Sun", 1: "Mon", 2: "Tue", 3: "Wed", 4: "Thu", 5: "Fri", 6: "Sat",
	})
}

// checkText checks the short words of all numbers near those of words, and of numbers far away.
func checkText(t *testing.T, title string, call func(n int) string, want map[int]string) {
	t.Helper()
	check := func(n int) {
		if got := call(n); got != want[n] {
			t.Errorf("%s(%d) = %q, want %q", title, n, got, want[n])
		}
	}
	for n := -1000; n <= 1000; n++ {
		check(n)
	}
	for bit := range 63 {
		for n := -2; n <= 13; n++ {
			check(1<<bit + n)
			check(-1<<bit - n)
		}
	}
	for n := range 14 {
		check(math.MaxInt - n)
		check(math.MinInt + n)
	}
}

// P8.3: short words mean their months and weekdays, in whatever case they are written.
func TestShortWords(t *testing.T) {
	mean := func(title string, call func(s string) (int, api.Errno), text string, want int) {
		cases(strings.ToLower(text), func(s string) {
			if got, e := call(s); got != want || e != api.OK {
				t.Errorf("%s(%q) = %d, %d, want %d, OK", title, s, got, e, want)
			}
		})
	}
	for m := 1; m <= 12; m++ {
		mean("Month", word.Month, word.MonthText(m), m)
	}
	for w := 0; w <= 6; w++ {
		mean("Week", word.Week, word.WeekText(w), w)
	}
}

// P8.4: a longer beginning of a word that a string means, and the word itself, mean this word.
func TestLonger(t *testing.T) {
	for _, l := range lists() {
		for i, w := range l.words {
			least := 0
			for n := range len(w) + 1 {
				got, e := l.call(w[:n])
				if e == api.OK && least == 0 {
					least = n
				}
				if least > 0 && (got != l.first+i || e != api.OK) {
					t.Errorf("%s(%q) = %d, %d, but %q means %d", l.title, w[:n], got, e, w[:least], l.first+i)
				}
			}
			if least == 0 {
				t.Errorf("%s: no beginning of %q means it", l.title, w)
			}
		}
	}
}

// R8, R9: equal calls side by side have equal results.
func TestSideBySide(t *testing.T) {
	all := lists()
	var group sync.WaitGroup
	for range 8 {
		group.Go(func() {
			for range 200 {
				for _, l := range all {
					for _, w := range l.words {
						checkAll(t, all, w)
						checkAll(t, all, w[:1])
					}
				}
				if word.MonthText(9) != "Sep" || word.WeekText(0) != "Sun" {
					t.Error("a short word is wrong")
				}
			}
		})
	}
	group.Wait()
}
