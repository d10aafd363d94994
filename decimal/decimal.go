// Package decimal reads and writes whole numbers in decimal digits, for the layers that do (no layer).
//
// It is there because package strconv reads tables, which add up with those of the layers: see rule 3a of shared/LANGUAGE.md.
package decimal

const (
	base      = 10
	mostBytes = 20 // a minus sign and 19 digits
)

// Parse returns the number that a string of some digits at most writes, and whether it writes one, without zeros ahead of other digits. Up to 18 digits fit.
func Parse(s string, most int) (int64, bool) {
	if s == "" || len(s) > most || len(s) > 1 && s[0] == '0' {
		return 0, false
	}
	n := int64(0)
	for i := range len(s) {
		if s[i] < '0' || s[i] > '9' {
			return 0, false
		}
		n = base*n + int64(s[i]-'0')
	}
	return n, true
}

// Print returns the string of a number.
func Print(n int64) string {
	var text [mostBytes]byte
	at := len(text)
	for rest := n; rest != 0 || at == len(text); rest /= base {
		at--
		text[at] = digit(rest % base)
	}
	if n < 0 {
		at--
		text[at] = '-'
	}
	return string(text[at:])
}

// digit returns the digit of a remainder, which is below 0 if the number is.
func digit(remainder int64) byte {
	if remainder < 0 {
		return byte('0' - remainder)
	}
	return byte('0' + remainder)
}
