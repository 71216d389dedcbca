package respond

import (
	"strings"

	"waypost/api"
	"waypost/number"
)

// A code has codeDigits digits, so that none is greater than maxCode.
const (
	codeDigits = 3
	maxCode    = 999
)

// cursor is a place in a text.
type cursor struct {
	text string
	at   int
}

// left returns what stands behind the cursor.
func (c *cursor) left() string {
	return c.text[c.at:]
}

// line goes over the next line, if it ends, and take takes what it has. It returns whether it did; if not, the cursor stays at its first byte.
func (c *cursor) line(take func(string) bool) bool {
	line, _, ends := strings.Cut(c.left(), lineEnd)
	if !ends || !take(line) {
		return false
	}
	c.at += len(line) + len(lineEnd)
	return true
}

// reader reads a response: where it is, what was read of it, and how long its body has to be. Its methods that are named for lines take one, and return whether it is as it has to be.
type reader struct {
	cursor
	api.Response
	length int
}

// takeCode takes the line of the code.
func (r *reader) takeCode(line string) bool {
	digits, _, _ := strings.Cut(strings.TrimPrefix(line, version+" "), " ")
	// What is no number is read as 0, which is none of the codes.
	code, _ := number.Dec(digits, codeDigits, maxCode)
	r.Code = int(code)
	_, e := Reason(r.Code)
	return e == api.OK && line == codeLine(r.Code)
}

// takeField takes the line of a field.
func (r *reader) takeField(line string) bool {
	name, value, is := strings.Cut(line, colon)
	if !is || len(r.Fields) == api.MaxFields || May(api.Field{Name: name, Value: value}) != api.OK {
		return false
	}
	// Parts of the text would share its memory, which no result does.
	r.Fields = append(r.Fields, api.Field{Name: strings.Clone(name), Value: strings.Clone(value)})
	return true
}

// takeLength takes the line that says the length of the body.
func (r *reader) takeLength(line string) bool {
	digits := strings.TrimPrefix(line, lengthName+colon)
	length, e := number.Dec(digits, len(digits), api.MaxAnswer)
	r.length = int(length)
	return e == api.OK && line == lengthLine(r.length)
}

// takeClose takes the line that says that the connection is closed.
func (r *reader) takeClose(line string) bool {
	r.Close = line == closeLine
	return r.Close
}

// isEmpty returns whether a line is the one behind which the body begins.
func isEmpty(line string) bool {
	return line == ""
}

// readHead reads all lines, and returns whether each is as it has to be. If not, the cursor is at the first one that is not.
func (r *reader) readHead() bool {
	if !r.line(r.takeCode) {
		return false
	}
	for r.line(r.takeField) {
	}
	if !r.line(r.takeLength) {
		return false
	}
	r.line(r.takeClose)
	return r.line(isEmpty)
}

// readBody reads the body, and returns whether it is whole. If not, the cursor is at the end of the text.
func (r *reader) readBody() bool {
	if r.Head {
		return true
	}
	if len(r.left()) < r.length {
		r.at = len(r.text)
		return false
	}
	r.Body = strings.Clone(r.left()[:r.length])
	r.at += r.length
	return true
}

// Parse returns the response with which s begins, and how many bytes it has; without one, where it is wrong.
func Parse(s string, head bool) (r api.Response, used int, f api.Fault) {
	p := &reader{cursor: cursor{text: s}, Response: api.Response{Head: head}}
	if !p.readHead() || !p.readBody() {
		return api.Response{}, 0, api.Fault{Err: api.ErrForm, At: p.at}
	}
	return p.Response, p.at, api.Fault{}
}

// All returns as many responses as heads has elements, which have to be all of s; otherwise, where it is wrong.
func All(s string, heads []bool) ([]api.Response, api.Fault) {
	var l []api.Response
	at := 0
	for _, head := range heads {
		r, used, f := Parse(s[at:], head)
		if f.Err != api.OK {
			return nil, api.Fault{Err: f.Err, At: at + f.At}
		}
		l = append(l, r)
		at += used
	}
	if at < len(s) {
		return nil, api.Fault{Err: api.ErrForm, At: at}
	}
	return l, api.Fault{}
}
