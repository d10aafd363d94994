package name_test

import (
	"regexp"
	"strings"
	"testing"

	"analemma/name"
)

// kind is a kind of names: its function, and the definition, restated.
type kind struct {
	title string
	is    func(s string) bool
	form  *regexp.Regexp
	most  int
}

func kinds() []kind {
	part := `[A-Za-z0-9_+][A-Za-z0-9._+\-]{0,13}`
	return []kind{
		{"Zone", name.Zone, regexp.MustCompile(`\A` + part + `(/` + part + `)*\z`), 60},
		{"Set", name.Set, regexp.MustCompile(`\A[A-Za-z][A-Za-z0-9_\-]*\z`), 30},
		{"Letter", name.Letter, regexp.MustCompile(`\A[A-Za-z]+\z`), 4},
		{"Abbr", name.Abbr, regexp.MustCompile(`\A[A-Za-z]{3,}\z`), 6},
	}
}

// checkAll compares each function's result with what is defined, and checks the properties of the names that lie in each other.
func checkAll(t *testing.T, all []kind, s string) {
	t.Helper()
	for _, k := range all {
		want := len(s) <= k.most && k.form.MatchString(s)
		if got := k.is(s); got != want {
			t.Errorf("%s(%.70q) = %v, want %v", k.title, s, got, want)
		}
	}
	checkBetween(t, s)
}

// checkBetween checks that abbreviations are LETTERs, these are names of sets, and these are names of zones, where they are not too long.
func checkBetween(t *testing.T, s string) {
	t.Helper()
	if name.Abbr(s) && len(s) <= 4 && !name.Letter(s) {
		t.Errorf("%q is an abbreviation, but no LETTER", s)
	}
	if name.Letter(s) && !name.Set(s) {
		t.Errorf("%q is a LETTER, but not the name of a set", s)
	}
	if name.Set(s) && len(s) <= 14 && !name.Zone(s) {
		t.Errorf("%q is the name of a set, but not of a zone", s)
	}
}

// check checks one function for some strings.
func check(t *testing.T, title string, is func(s string) bool, want bool, some ...string) {
	t.Helper()
	for _, s := range some {
		if got := is(s); got != want {
			t.Errorf("%s(%.70q) = %v, want %v", title, s, got, want)
		}
	}
}

// P7.1: ordinary names, those of the examples, and each byte that can begin a part.
func TestZone(t *testing.T) {
	check(t, "Zone", name.Zone, true,
		"Europe/Dublin", "Etc/GMT+1", "A", "America/Port-au-Prince",
		"Etc/GMT-14", "GMT", "UTC", "GMT0", "EST5EDT", "America/Argentina/Buenos_Aires", "America/Indiana/Tell_City", "a/b/c/d/e/f", "Asia/Ust-Nera",
		"z", "Z", "a", "0", "9", "_", "+", "_/+/0", "0.", "0-", "0_", "0+", "a..", "a--", "a.b-c_d+e", "+1", "+-.", "_.", "a-/b./c_/d+")
}

// P7.1: strings that are not names of zones.
func TestZoneWrong(t *testing.T) {
	check(t, "Zone", name.Zone, false,
		"", "/A", "A//B", "A/", ".A", "A/-B", "A B", "Europe/Saint_Petersburg_",
		"/", "//", "A/B/", "/A/B", "A///B", ".", "-", "..", "A/.", "A/-", "A/..", "./A", "-/A", "-A", "A/.B", "A/B/-C", "A/B/.C",
		"Europe/Dublin ", " Europe/Dublin", "Europe/ Dublin", "Europe/Dublin\n", "Europe\\Dublin", "A\x00", "\x00", "A\xff", "\u00c9", "Z\u00fcrich", "A,B", "A*", "A:B", "A@B", "A[", "A`", "A{", "A^", "\"A\"",
		strings.Repeat("A", 1<<20), strings.Repeat("A/", 1<<20), strings.Repeat("/", 1<<20), strings.Repeat("A/", 1<<20)+"A")
}

// P7.1: parts and names at the limits and beyond them.
func TestZoneLong(t *testing.T) {
	long := "Saint_Petersbu" // 14 bytes
	four := strings.Join([]string{long, long, long, long}, "/")
	check(t, "Zone", name.Zone, true,
		long, long[:13], long+"/"+long, "A/"+long, long+"/A", "A/"+long+"/B", four, four[:58],
		"A"+four[12:]+"/B", four[2:]+"/AB", strings.Repeat("A/", 29)+"A", strings.Repeat("A/", 29)+"AB", strings.Repeat("AB/", 19)+"ABC")
	check(t, "Zone", name.Zone, false,
		long+"g", "A/"+long+"g", long+"g/A", "A/"+long+"g/B", long+long, four+"/", four+"/A", four[1:]+"/AB", four+"g", four[:58]+"/AB",
		strings.Repeat("A/", 29)+"ABC", strings.Repeat("A/", 30), strings.Repeat("A/", 30)+"A", strings.Repeat("AB/", 20), strings.Repeat("AB/", 19)+"ABCD")
	all := kinds()
	for n := range 80 {
		for _, part := range []string{long + "/", long[:13] + "/", long[:12] + "/", "A/", "AB/", "ABC/", long + "g/", "A", "A.", "A-", "A+"} {
			checkAll(t, all, strings.Repeat(part, 80)[:n])
		}
	}
}

// P7.2: ordinary names of sets, those of the examples, and strings that are none.
func TestSet(t *testing.T) {
	check(t, "Set", name.Set, true,
		"Eire", "C-Eur", "E_2", "A", "z", "Z", "a", "GB-Eire", "E-Eur", "Russia", "US", "A0", "A9", "A_", "A-", "A--", "A-_9z", "EU", "NT_YK", "SystemV")
	check(t, "Set", name.Set, false,
		"2E", "-E", "E.U", "", "_E", "_", "-", "0", "9a", "E+", "+E", "E/U", "/", "E/", "E ", " E", "E U", "E\n", "E\x00", "\x00", "E\xff", "\xffE", "\u00c9ire", "E\u00c9", "E@", "@E", "[E", "`E", "{E", "E:", "E*", "Ei,re")
}

// P7.2: names of sets at the limit of their length, and beyond it.
func TestSetLong(t *testing.T) {
	long := "A-Set_Name_Of_Thirty_Bytes_456" // 30 bytes
	check(t, "Set", name.Set, true, long, long[:29], long[:15], strings.Repeat("Z", 30))
	check(t, "Set", name.Set, false, long+"7", long+"-", long+long, strings.Repeat("Z", 31), strings.Repeat("Z", 1<<20), long[:29]+".", long[1:])
	all := kinds()
	for n := range 40 {
		for _, part := range []string{"Z", "a", "A0", "A-", "A_", "A.", "0"} {
			checkAll(t, all, strings.Repeat(part, 40)[:n])
		}
	}
}

// P7.3: ordinary LETTERs, those of the examples, and strings that are none.
func TestLetter(t *testing.T) {
	check(t, "Letter", name.Letter, true, "S", "GMTT", "D", "s", "a", "z", "A", "Z", "AZ", "az", "BST", "Zaza")
	check(t, "Letter", name.Letter, false,
		"", "-", "SUMME", "S1", "1", "1S", "S-", "-S", "S_", "S ", " S", "S\n", "S\x00", "\x00", "\xff", "S\xff", "\u00e9", "S\u00e9", "@", "[", "`", "{", "S+", "S.", "S/", "S/D", "%z", "GMTTT", "GMT1", "GMTT1", "GMTT-",
		strings.Repeat("S", 1<<20))
}

// P7.3: ordinary abbreviations, those of the examples, and strings that are none.
func TestAbbr(t *testing.T) {
	check(t, "Abbr", name.Abbr, true, "GMT", "NZMTST", "gmt", "CEST", "AZaz", "azA", "NZMTS", "Zzzzzz", "LMT")
	check(t, "Abbr", name.Abbr, false,
		"GM", "GMTGMTG", "+01", "%z", "", "G", "-", "-00", "+0130", "01", "GM1", "1GM", "GM+", "GM-", "GM_", "G.T", "GMT ", " GMT", "GMT\n", "GMT1", "GMT/", "GMT/BST", "G%sT", "%s", "GM\x00", "\x00\x00\x00", "GM\xff", "\xff\xff\xff", "\u00c9\u00c9", "GM@", "[GM", "`GM", "GM{",
		"GMTGM1", "GMTGM ", strings.Repeat("G", 1<<20))
}

// each calls f with all strings of at most n of some bytes.
func each(bytes string, n int, f func(s string)) {
	var grow func(s string, more int)
	grow = func(s string, more int) {
		f(s)
		if more > 0 {
			for i := range len(bytes) {
				grow(s+bytes[i:i+1], more-1)
			}
		}
	}
	grow("", n)
}

// everyByte returns each byte once.
func everyByte() string {
	var all []byte
	for b := range 256 {
		all = append(all, byte(b))
	}
	return string(all)
}

// P7.1 to P7.3, P7.5: all strings of at most two bytes, and of a few bytes of each kind.
func TestShort(t *testing.T) {
	all := kinds()
	each(everyByte(), 2, func(s string) { checkAll(t, all, s) })
	each("aZ0._+-/ ", 5, func(s string) { checkAll(t, all, s) })
	each("az1", 8, func(s string) { checkAll(t, all, s) })
}

// P7.1 to P7.3, P7.5: strings that differ from right ones by one byte, at any place.
func TestNear(t *testing.T) {
	all := kinds()
	for _, s := range []string{
		"Europe/Dublin", "Etc/GMT+1", "America/Port-au-Prince", "America/Argentina/Buenos_Aires", "C-Eur", "E_2", "GMTT", "NZMTST", "S", "BST",
		"Saint_Petersbu/Saint_Petersbu/Saint_Petersbu/Saint_Peters/ab", "Saint_Petersbu/Saint_Petersbu/Saint_Petersbu/Saint_Petersbu", strings.Repeat("A/", 29) + "A", "A-Set_Name_Of_Thirty_Bytes_456",
	} {
		for i := range len(s) + 1 {
			for b := range 256 {
				one := string([]byte{byte(b)})
				checkAll(t, all, s[:i]+one+s[i:])
				if i < len(s) {
					checkAll(t, all, s[:i]+one+s[i+1:])
				}
			}
			if i < len(s) {
				checkAll(t, all, s[:i]+s[i+1:])
			}
		}
	}
}

// zones are names of zones of many lengths.
func zones() []string {
	some := []string{"A", "_", "+", "0", "a.", "a-", "Etc/GMT+1", "Europe/Dublin", "America/Argentina/Buenos_Aires", "America/Port-au-Prince", "Saint_Petersbu"}
	for n := 1; n <= 60; n++ {
		for _, long := range []string{strings.Repeat("Saint_Petersbu/", 4), strings.Repeat("A/", 30), strings.Repeat("AB/", 20)} {
			if s := long[:n]; !strings.HasSuffix(s, "/") {
				some = append(some, s)
			}
		}
	}
	return some
}

// P7.4: two names of zones with a slash between them, and the parts of names of zones.
func TestParts(t *testing.T) {
	some := zones()
	for _, s := range some {
		check(t, "Zone", name.Zone, true, s)
		check(t, "Zone", name.Zone, true, strings.Split(s, "/")...)
		for _, more := range some {
			check(t, "Zone", name.Zone, len(s)+len(more) <= 59, s+"/"+more)
		}
	}
}

// P7.5: what lies in between, up to the lengths at which it ends.
func TestBetween(t *testing.T) {
	for n := 1; n <= 40; n++ {
		s := strings.Repeat("Abcd", 10)[:n]
		check(t, "Abbr", name.Abbr, 3 <= n && n <= 6, s)
		check(t, "Letter", name.Letter, n <= 4, s)
		check(t, "Set", name.Set, n <= 30, s)
		check(t, "Zone", name.Zone, n <= 14, s)
		checkBetween(t, s)
	}
}

// Calls in any order, and side by side, have the same results: nothing is kept from one to the next.
func TestAgain(t *testing.T) {
	some := []string{"", "A", "A/", "Europe/Dublin", "C-Eur", "GMT", "NZMTST", ".A", strings.Repeat("A", 61)}
	done := make(chan bool)
	for range 8 {
		go func() {
			defer func() { done <- true }()
			all := kinds()
			for range 200 {
				for _, s := range some {
					checkAll(t, all, s)
				}
			}
		}()
	}
	for range 8 {
		<-done
	}
}
