package row

import (
	"strings"

	"waypost/api"
)

// hexDigits are the digits of escapes as they are written.
const hexDigits = "0123456789abcdef"

// Text returns the rows as a text, each with a line feed behind it.
func Text(rows []api.Row) (string, api.Errno) {
	var text []byte
	for _, r := range rows {
		if len(r.Words) == 0 {
			return "", api.ErrForm
		}
		line, ok := writeLine(r.Words)
		if !ok || len(text)+len(line)+1 > api.MaxText {
			return "", api.ErrLong
		}
		text = append(text, line...)
		text = append(text, '\n')
	}
	return string(text), api.OK
}

// writeLine returns the words with spaces between them, and whether that is not too long for a row.
func writeLine(words []api.Word) (string, bool) {
	var line []byte
	for i, w := range words {
		if i > 0 {
			line = append(line, ' ')
		}
		// No word is written shorter than it is, so that a word of any length need not be written to know that it is too long.
		if len(line)+len(w.Text) > api.MaxRow {
			return "", false
		}
		line = append(line, Write(w.Text)...)
	}
	return string(line), len(line) <= api.MaxRow
}

// Write returns s as a word.
func Write(s string) string {
	if Bare(s) {
		return strings.Clone(s)
	}
	word := []byte{'"'}
	for i := range len(s) {
		word = appendByte(word, s[i])
	}
	return string(append(word, '"'))
}

// appendByte writes one byte of a quoted word.
func appendByte(word []byte, b byte) []byte {
	switch {
	case isEscaped(b):
		return append(word, '\\', b)
	case isPrinted(b):
		return append(word, b)
	}
	return append(word, '\\', 'x', hexDigits[b/16], hexDigits[b%16])
}

// isEscaped returns whether b stands behind a backslash in quoted words.
func isEscaped(b byte) bool {
	return b == '"' || b == '\\'
}

// isPrinted returns whether b needs no number in quoted words.
func isPrinted(b byte) bool {
	return ' ' <= b && b <= '~'
}

// Bare returns whether s, as it is, is a bare word.
func Bare(s string) bool {
	if s == "" || s[0] == '#' {
		return false
	}
	for i := range len(s) {
		if !isPrinted(s[i]) || s[i] == ' ' || s[i] == '"' {
			return false
		}
	}
	return true
}
