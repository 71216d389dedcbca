package byteset

import (
	"iter"
	"strings"

	"waypost/api"
)

// maxText is the greatest length of a text that Parse reads.
const maxText = 1024

// marks are the bytes, besides letters and digits, that are written as themselves.
const marks = "!#$%&'*+,./:;<=>?@_`{|}~()"

// hexDigits are the digits of escapes as they are written.
const hexDigits = "0123456789abcdef"

// Text returns the text of s.
func Text(s api.Set) string {
	var text []byte
	for r := range runs(s) {
		text = appendByte(text, r.Low)
		if r.High-r.Low > 1 {
			text = append(text, '-')
		}
		if r.High > r.Low {
			text = appendByte(text, r.High)
		}
	}
	return string(text)
}

// runs goes through the runs of s, ascending, each as long as possible.
func runs(s api.Set) iter.Seq[api.Range] {
	return func(yield func(api.Range) bool) {
		gaps := Not(s)
		low, e := Next(s, 0)
		for e == api.OK {
			past, none := Next(gaps, low)
			if none != api.OK {
				past = 256
			}
			if !yield(api.Range{Low: byte(low), High: byte(past - 1)}) {
				return
			}
			low, e = Next(s, past)
		}
	}
}

// appendByte writes one byte of a text.
func appendByte(text []byte, b byte) []byte {
	if isPlain(b) {
		return append(text, b)
	}
	return append(text, '\\', 'x', hexDigits[b/16], hexDigits[b%16])
}

// isPlain returns whether b is written as itself.
func isPlain(b byte) bool {
	switch {
	case 'a' <= b && b <= 'z', 'A' <= b && b <= 'Z', '0' <= b && b <= '9':
		return true
	}
	return strings.IndexByte(marks, b) >= 0
}

// Parse reads a text; it stops at the first run that is wrong.
func Parse(text string) (api.Set, api.Errno) {
	if len(text) > maxText {
		return api.Set{}, api.ErrLong
	}
	var s api.Set
	for text != "" {
		r, rest, e := readRun(text)
		if e != api.OK {
			return api.Set{}, e
		}
		s = Union(s, span(r))
		text = rest
	}
	return s, api.OK
}

// readRun reads the run with which text begins, and returns what is behind it.
func readRun(text string) (api.Range, string, api.Errno) {
	low, rest, ok := readByte(text)
	if !ok {
		return api.Range{}, "", api.ErrForm
	}
	last, isLong := strings.CutPrefix(rest, "-")
	if !isLong {
		return api.Range{Low: low, High: low}, rest, api.OK
	}
	high, rest, ok := readByte(last)
	if !ok {
		return api.Range{}, "", api.ErrForm
	}
	if high <= low {
		return api.Range{}, "", api.ErrOrder
	}
	return api.Range{Low: low, High: high}, rest, api.OK
}

// readByte reads the byte with which text begins, and returns what is behind it.
func readByte(text string) (byte, string, bool) {
	if text != "" && isPlain(text[0]) {
		return text[0], text[1:], true
	}
	if len(text) < 4 || text[:2] != `\x` {
		return 0, "", false
	}
	high, isHigh := hexValue(text[2])
	low, isLow := hexValue(text[3])
	return 16*high + low, text[4:], isHigh && isLow
}

// hexValue returns the value of a hexadecimal digit in either case.
func hexValue(digit byte) (byte, bool) {
	switch {
	case '0' <= digit && digit <= '9':
		return digit - '0', true
	case 'a' <= digit && digit <= 'f':
		return digit - 'a' + 10, true
	case 'A' <= digit && digit <= 'F':
		return digit - 'A' + 10, true
	}
	return 0, false
}
