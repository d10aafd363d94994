// Package year reads and writes the years of lines, for layers 10 and 11. See shared/doc/10-ruleline.md.
package year

import (
	"analemma/api"
	"analemma/decimal"
)

const digits = 4 // of a year, at most

// Parse returns the year that a string names.
func Parse(s string) (int, api.Errno) {
	y, ok := decimal.Parse(s, digits)
	if !ok || y == 0 {
		return 0, api.ErrForm
	}
	if !named(int(y)) {
		return 0, api.ErrRange
	}
	return int(y), api.OK
}

// Print returns a year as a string, if it is named.
func Print(y int) (string, api.Errno) {
	if !named(y) {
		return "", api.ErrArg
	}
	return decimal.Print(int64(y)), api.OK
}

// named reports whether lines can name a year.
func named(y int) bool { return y >= api.MinYear && y <= api.MaxYear }
