package wire

import (
	"strings"

	"waypost/api"
	"waypost/chunked"
	"waypost/field"
	"waypost/framing"
	"waypost/reqline"
)

// The statuses of errors that are found here. Those of request lines and of bodies come from the layers that read them.
const (
	badRequest    = 400
	fieldsTooLong = 431
)

// begun is what there is of a line.
type begun struct {
	text string
}

// add adds a byte to the line.
func (l *begun) add(b byte) {
	l.text += string([]byte{b})
}

// bare returns the line without its CR.
func (l *begun) bare() string {
	return withoutCR(l.text)
}

// hasCR returns whether a LF may end the line.
func (l *begun) hasCR() bool {
	return strings.HasSuffix(l.text, "\r")
}

// withoutCR returns a line without its CR.
func withoutCR(text string) string {
	return strings.TrimSuffix(text, "\r")
}

// body is what there is of a body, as bytes, so that it is not copied for each one that is added, and how many are still to come.
type body struct {
	got  []byte
	left int
}

// grow adds a byte to the body, and returns whether it is whole.
func (d *body) grow(b byte) bool {
	d.got = append(d.got, b)
	d.left--
	return d.left == 0
}

// parts are what was read of a request.
type parts struct {
	begun
	head
	body
	chunks api.Chunks
}

// parser is a parser at work: where it is, what it read of the request at hand, and what it told. Its methods that are named for places handle a byte there.
type parser struct {
	at int
	parts
	journal
}

// newParser returns the parser at work that begins as w, with memory of its own.
func newParser(w api.Wire) *parser {
	w.Chunks.Body, w.Chunks.Line = strings.Clone(w.Chunks.Body), strings.Clone(w.Chunks.Line)
	return &parser{at: w.At, parts: parts{
		begun:  begun{strings.Clone(w.Text)},
		head:   head{w.Line, w.Fields}.own(),
		body:   body{[]byte(w.Body), w.Left},
		chunks: w.Chunks,
	}}
}

// wire returns the parser as others know it.
func (p *parser) wire() api.Wire {
	return api.Wire{At: p.at, Text: p.text, Line: p.line, Fields: p.fields, Body: string(p.got), Left: p.left, Chunks: p.chunks}
}

// byteHandlers returns what handles a byte, by the place. There is no place 0.
func byteHandlers() [api.AtEnd + 1]func(*parser, byte) {
	return [...]func(*parser, byte){
		api.AtLine:   (*parser).inLine,
		api.AtFields: (*parser).inFields,
		api.AtBody:   (*parser).inBody,
		api.AtChunks: (*parser).inChunks,
		api.AtEnd:    (*parser).inEnd,
	}
}

// take gives the bytes of a chunk to the parser.
func (p *parser) take(chunk string) {
	handlers := byteHandlers()
	for i := range len(chunk) {
		handlers[p.at](p, chunk[i])
	}
}

// move goes on at a place with nothing but a head.
func (p *parser) move(at int, known head) {
	p.at, p.parts = at, parts{head: known}
}

// end tells what comes last of a request, and goes on at a place with nothing of it.
func (p *parser) end(at int, l ...event) {
	p.tell(l...)
	p.move(at, head{})
}

// fail ends all reading with an error, behind which nobody knows where a request begins.
func (p *parser) fail(status int) {
	p.end(api.AtEnd, errorEvent{p.head, status})
}

// failInHead fails where there may be more fields than were read, so that none are told.
func (p *parser) failInHead(status int) {
	p.fields = nil
	p.fail(status)
}

func (p *parser) inLine(b byte) {
	if b == '\n' {
		p.endLine()
		return
	}
	p.add(b)
	if status, _ := reqline.Long(p.bare()); status != 0 {
		p.fail(status)
	}
}

// endLine reads the request line.
func (p *parser) endLine() {
	if !p.hasCR() {
		p.fail(badRequest)
		return
	}
	line, status, _ := reqline.Parse(p.bare())
	if status != 0 {
		p.fail(status)
		return
	}
	p.move(api.AtFields, head{line: line})
	p.tell(lineEvent{p.head})
}

func (p *parser) inFields(b byte) {
	switch {
	case b == '\n':
		p.endField()
	case len(p.fields) == api.MaxFields && (p.text != "" || b != '\r'):
		p.failInHead(fieldsTooLong)
	default:
		p.add(b)
		if len(p.bare()) > api.MaxLine {
			p.failInHead(fieldsTooLong)
		}
	}
}

// endField reads the line of a field, or the empty one behind all of them.
func (p *parser) endField() {
	switch {
	case !p.hasCR():
		p.failInHead(badRequest)
	case p.bare() == "":
		p.endHead()
	default:
		p.readField()
	}
}

// readField reads the line of a field.
func (p *parser) readField() {
	f, e := field.Read(p.bare())
	switch e {
	case api.OK:
		p.fields = append(p.fields, f)
		p.text = ""
	case api.ErrLong:
		p.failInHead(fieldsTooLong)
	default:
		p.failInHead(badRequest)
	}
}

// endHead goes on with the body that the fields say.
func (p *parser) endHead() {
	there := headEvent{p.head}
	f, status := framing.Of(p.fields)
	switch {
	case status != 0:
		p.end(api.AtEnd, there, errorEvent{p.head, status})
	case f.Kind == api.ByChunks:
		p.tell(there)
		p.move(api.AtChunks, p.head)
		p.chunks = chunked.New()
	case f.Length > 0:
		p.tell(there)
		p.move(api.AtBody, p.head)
		p.left = f.Length
	default:
		p.end(api.AtLine, there, requestEvent{p.head, ""})
	}
}

func (p *parser) inBody(b byte) {
	if p.grow(b) {
		p.end(api.AtLine, requestEvent{p.head, string(p.got)})
	}
}

func (p *parser) inChunks(b byte) {
	// The decoder is a new one or one that was checked, so that Feed takes it.
	p.chunks, _, _ = chunked.Feed(p.chunks, string([]byte{b}))
	switch p.chunks.State {
	case api.ChunksBad:
		p.fail(p.chunks.Status)
	case api.ChunksDone:
		p.end(api.AtLine, requestEvent{p.head, p.chunks.Body})
	}
}

func (p *parser) inEnd(byte) {}
