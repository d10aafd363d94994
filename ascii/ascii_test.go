package ascii_test

import (
	"strings"
	"testing"

	"analemma/ascii"
)

// lower restates what small letters in place of capital ones are.
func lower(s string) string {
	const capitals, small = "ABCDEFGHIJKLMNOPQRSTUVWXYZ", "abcdefghijklmnopqrstuvwxyz"
	b := []byte(s)
	for i, c := range b {
		if at := strings.IndexByte(capitals, c); at >= 0 {
			b[i] = small[at]
		}
	}
	return string(b)
}

func check(t *testing.T, a, b string) {
	t.Helper()
	want := lower(a) == lower(b)
	if ascii.Same(a, b) != want || ascii.Same(b, a) != want {
		t.Errorf("Same(%q, %q) = %t, and %t the other way round, want %t", a, b, ascii.Same(a, b), ascii.Same(b, a), want)
	}
}

// P8.1, P9.1: all pairs of bytes, alone and within a word.
func TestBytes(t *testing.T) {
	for a := range 256 {
		for b := range 256 {
			x, y := string([]byte{byte(a)}), string([]byte{byte(b)})
			check(t, x, y)
			check(t, "l"+x+"st", "L"+y+"ST")
		}
	}
}

// P8.1, P9.1: strings of other lengths, and letters beyond A to Z, which are of no size.
func TestStrings(t *testing.T) {
	some := []string{"", "l", "la", "las", "last", "LAST", "LasT", "lasts", "la\u017ft", "\u212a", "k", "K", "\u0130", "i", "\u00e9", "\u00c9", "\xc9", "\xe9", "last\x00", "[ast", "{ast"}
	for _, a := range some {
		for _, b := range some {
			check(t, a, b)
		}
	}
	long := strings.Repeat("last", 1<<18)
	check(t, long, strings.ToUpper(long))
	check(t, long, long+"s")
}
