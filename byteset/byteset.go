// Package byteset keeps sets of bytes. It is layer 1: see shared/doc/01-byteset.md.
package byteset

import (
	"iter"
	"math/bits"

	"waypost/api"
)

// letterBits are the bits of the letters of one case, counted from 64, where the word of the letters begins: A is bit 1, Z is bit 26.
const letterBits = 0x07fffffe

// lowerShift is how far a small letter is behind the same capital letter.
const lowerShift = 'a' - 'A'

// Of returns the set of the given bytes.
func Of(l ...byte) api.Set {
	var s api.Set
	for _, b := range l {
		s[b/64] |= 1 << (b % 64)
	}
	return s
}

// Ranges returns the set of the bytes of all ranges, or ErrOrder if one of them ends before it begins.
func Ranges(l ...api.Range) (api.Set, api.Errno) {
	var s api.Set
	for _, r := range l {
		if r.Low > r.High {
			return api.Set{}, api.ErrOrder
		}
		s = Union(s, span(r))
	}
	return s, api.OK
}

// span returns the set of the bytes of a range. It counts in ints: a byte could not go past 255.
func span(r api.Range) api.Set {
	var s api.Set
	for b := int(r.Low); b <= int(r.High); b++ {
		s[b/64] |= 1 << (b % 64)
	}
	return s
}

// Has returns whether b is in s.
func Has(s api.Set, b byte) bool {
	return s[b/64]>>(b%64)&1 == 1
}

// Union returns the bytes that are in one of the sets.
func Union(l ...api.Set) api.Set {
	var u api.Set
	for _, s := range l {
		for i := range len(u) {
			u[i] |= s[i]
		}
	}
	return u
}

// Common returns the bytes that are in all of the sets; without sets, all bytes.
func Common(l ...api.Set) api.Set {
	c := Not(api.Set{})
	for _, s := range l {
		for i := range len(c) {
			c[i] &= s[i]
		}
	}
	return c
}

// Not returns the bytes that are not in s.
func Not(s api.Set) api.Set {
	for i := range len(s) {
		s[i] = ^s[i]
	}
	return s
}

// Fold returns s with each of its letters in both cases. All letters are in one word, so that a shift changes their case.
func Fold(s api.Set) api.Set {
	capital := s[1] & letterBits
	small := s[1] >> lowerShift & letterBits
	both := capital | small
	s[1] |= both | both<<lowerShift
	return s
}

// Count returns how many bytes are in s.
func Count(s api.Set) int {
	n := 0
	for _, w := range s {
		n += bits.OnesCount64(w)
	}
	return n
}

// List returns the bytes of s, ascending.
func List(s api.Set) []byte {
	var l []byte
	for b := range bytesFrom(s, 0) {
		l = append(l, byte(b))
	}
	return l
}

// Next returns the least byte of s that is at least from, or ErrMissing.
func Next(s api.Set, from int) (int, api.Errno) {
	for b := range bytesFrom(s, from) {
		return b, api.OK
	}
	return 0, api.ErrMissing
}

// bytesFrom goes through the bytes of s that are at least from, ascending.
func bytesFrom(s api.Set, from int) iter.Seq[int] {
	// The least int would wrap round below, where offsets of words are taken off.
	from = max(from, 0)
	return func(yield func(int) bool) {
		for i := range len(s) {
			skip := max(from-64*i, 0)
			for w := s[i] >> skip << skip; w != 0; w &= w - 1 {
				if !yield(64*i + bits.TrailingZeros64(w)) {
					return
				}
			}
		}
	}
}

// All returns whether all bytes of text are in s.
func All(s api.Set, text string) bool {
	return Union(s, Of([]byte(text)...)) == s
}
