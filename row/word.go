package row

import (
	"slices"
	"strconv"

	"waypost/api"
)

// maxNumber is the greatest number of nine digits.
const maxNumber = 999999999

// Number returns the number that a word is, from low to high. It has to be written as it would be written here, so that each number is written in one way only.
func Number(s string, low, high int) (int, api.Errno) {
	n, err := strconv.Atoi(s)
	if err != nil || strconv.Itoa(n) != s || n < -maxNumber || n > maxNumber {
		return 0, api.ErrForm
	}
	if n < low || n > high {
		return 0, api.ErrRange
	}
	return n, api.OK
}

// Which returns the number of the first of the names that s is.
func Which(s string, names ...string) (int, api.Errno) {
	at := slices.Index(names, s)
	if at < 0 {
		return 0, api.ErrName
	}
	return at, api.OK
}
