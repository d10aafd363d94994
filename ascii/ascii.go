// Package ascii compares letters of any size, for the layers that do (no layer).
//
// It is there because package strings also takes letters beyond A to Z, and reads large tables of them: see rule 3a of shared/LANGUAGE.md.
package ascii

// Same reports whether two strings are equal but for the size of their letters from A to Z.
func Same(a, b string) bool {
	if len(a) != len(b) {
		return false
	}
	for i := range len(a) {
		if small(a[i]) != small(b[i]) {
			return false
		}
	}
	return true
}

// small returns the small letter in place of a capital one, and any other byte as it is.
func small(c byte) byte {
	if c >= 'A' && c <= 'Z' {
		return c - 'A' + 'a'
	}
	return c
}
