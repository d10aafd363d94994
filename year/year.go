// Package year reads and writes the years of lines, for layers 10 and 11. See shared/doc/10-ruleline.md.
package year

import (
	"strconv"

	"analemma/api"
)

// most is the last year that can be written, with four digits.
const most = 9999

// Parse returns the year that a string names.
func Parse(s string) (int, api.Errno) {
	y, err := strconv.Atoi(s)
	// What is written again would have neither a plus sign nor zeros ahead of other digits.
	if err != nil || y < 1 || y > most || strconv.Itoa(y) != s {
		return 0, api.ErrForm
	}
	if !named(y) {
		return 0, api.ErrRange
	}
	return y, api.OK
}

// Print returns a year as a string, if it is named.
func Print(y int) (string, api.Errno) {
	if !named(y) {
		return "", api.ErrArg
	}
	return strconv.Itoa(y), api.OK
}

// named reports whether lines can name a year.
func named(y int) bool { return y >= api.MinYear && y <= api.MaxYear }
