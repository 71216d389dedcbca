package wire_test

import (
	"fmt"
	"math/rand"
	"regexp"
	"slices"
	"strconv"
	"strings"
	"testing"

	"waypost/api"
	"waypost/chunked"
	"waypost/wire"
)

const (
	mostMethod = 16
	mostTarget = 1024
	mostLine   = 512
	mostFields = 32
	mostBody   = 2048
	mostText   = 20000
)

// get is the chapter's GET.
const get = "GET / HTTP/1.1\r\n"

// The heads of requests with a body.
const (
	byLength = "POST /l HTTP/1.1\r\nHost: h\r\nContent-Length: 5\r\n\r\n"
	byChunks = "POST /c HTTP/1.1\r\nTransfer-Encoding: chunked\r\nHost: h\r\n\r\n"
)

// crlf is s with CR and LF instead of each bar, as in the chapter's examples.
func crlf(s string) string { return strings.ReplaceAll(s, "|", "\r\n") }

// text is n times the letter x.
func text(n int) string { return strings.Repeat("x", n) }

// lower is s with its letters A to Z in lower case, byte by byte.
func lower(s string) string {
	b := []byte(s)
	for i := range b {
		if b[i] >= 'A' && b[i] <= 'Z' {
			b[i] += 'a' - 'A'
		}
	}
	return string(b)
}

// The model: a text is read from its beginning, request by request, each line and each body as a whole.

var (
	tokenForm  = regexp.MustCompile("\\A[!#$%&'*+\\-.^_`|~0-9A-Za-z]+\\z")
	targetForm = regexp.MustCompile("\\A/[!-\"$-~]*\\z")
	lineForm   = regexp.MustCompile("\\A([!#$%&'*+\\-.^_`|~0-9A-Za-z]+) (/[!-\"$-~]*) HTTP/1\\.1\\z")
	lengthForm = regexp.MustCompile(`\A[0-9]{1,9}\z`)
)

// noCR is a line without its CR.
func noCR(line string) string {
	if strings.HasSuffix(line, "\r") {
		return line[:len(line)-1]
	}
	return line
}

// longLine is the status of a request line that is too long.
func longLine(line string) int {
	for i, part := range strings.SplitN(line, " ", 3) {
		if len(part) > []int{mostMethod, mostTarget, mostLine}[i] {
			return []int{400, 414, 400}[i]
		}
	}
	return 0
}

// longField is the status of the line of a field that is too long, behind so many fields.
func longField(fields int) func(string) int {
	return func(line string) int {
		if len(line) > mostLine || len(line) > 0 && fields == mostFields {
			return 431
		}
		return 0
	}
}

// isValue says whether a string is the value of a field.
func isValue(s string) bool {
	for i := range len(s) {
		if s[i] != '\t' && s[i] < 32 || s[i] == 127 {
			return false
		}
	}
	return s == strings.Trim(s, " \t")
}

// fieldLine is the line of a field.
func fieldLine(f api.Field) string { return strings.TrimSuffix(f.Name+": "+f.Value, " ") }

// isField says whether a field is valid.
func isField(f api.Field) bool {
	return tokenForm.MatchString(f.Name) && isValue(f.Value) && len(fieldLine(f)) <= mostLine
}

// fieldOf is the field that a line has, or the status.
func fieldOf(line string) (api.Field, int) {
	name, value, _ := strings.Cut(line, ":")
	f := api.Field{Name: name, Value: strings.Trim(value, " \t")}
	switch {
	case name == line || !tokenForm.MatchString(name) || !isValue(f.Value):
		return api.Field{}, 400
	case len(fieldLine(f)) > mostLine:
		return api.Field{}, 431
	}
	return f, 0
}

// framingOf is the kind of the body that fields say, and its length, or the status.
func framingOf(fields []api.Field) (kind, length, status int) {
	var lengths, codings []string
	for _, f := range fields {
		switch lower(f.Name) {
		case "content-length":
			lengths = append(lengths, strings.Split(f.Value, ",")...)
		case "transfer-encoding":
			codings = append(codings, lower(f.Value))
		}
	}
	switch {
	case len(codings) == 1 && codings[0] == "chunked" && len(lengths) == 0:
		return 3, 0, 0
	case len(codings) > 0:
		return 0, 0, 400
	case len(lengths) == 0:
		return 1, 0, 0
	}
	for i, one := range lengths {
		one = strings.Trim(one, " \t")
		n, err := strconv.Atoi(one)
		if err != nil || !lengthForm.MatchString(one) || i > 0 && n != length {
			return 0, 0, 400
		}
		length = n
	}
	if length > mostBody {
		return 0, 0, 413
	}
	return 2, length, 0
}

// model is a text that is read: the bytes that are left, the events so far, and, in the end, the parser. Its methods that read say whether there is more to read.
type model struct {
	left   string
	w      api.Wire
	events []api.WireEvent
}

// stop makes the parser w the last one.
func (m *model) stop(w api.Wire) bool {
	m.w, m.left = w, ""
	return false
}

// tell adds an event.
func (m *model) tell(e api.WireEvent) { m.events = append(m.events, e) }

// wrong adds the event of an error, the last one.
func (m *model) wrong(line api.ReqLine, fields []api.Field, status int) bool {
	m.tell(api.WireEvent{Kind: 4, Line: line, Fields: fields, Status: status})
	return m.stop(api.Wire{At: 5})
}

// line reads a line, of which no beginning may be too long, or finds the status. If it does not end, the parser is w with its bytes.
func (m *model) line(w api.Wire, long func(string) int) (line string, status int, ends bool) {
	line, rest, ends := strings.Cut(m.left, "\n")
	for n := range len(line) + 1 {
		if status := long(noCR(line[:n])); status != 0 {
			return "", status, true
		}
	}
	if !ends {
		w.Text = line
		return "", 0, m.stop(w)
	}
	m.left = rest
	if noCR(line) == line {
		return "", 400, true
	}
	return noCR(line), 0, true
}

// request reads a request.
func (m *model) request() bool {
	s, status, ends := m.line(api.Wire{At: 1}, longLine)
	if !ends {
		return false
	}
	parts := lineForm.FindStringSubmatch(s)
	switch {
	case status != 0:
		return m.wrong(api.ReqLine{}, nil, status)
	case parts == nil:
		return m.wrong(api.ReqLine{}, nil, 400)
	}
	line := api.ReqLine{Method: parts[1], Target: parts[2]}
	m.tell(api.WireEvent{Kind: 1, Line: line})
	return m.fields(line)
}

// fields reads the fields, and what is behind them.
func (m *model) fields(line api.ReqLine) bool {
	var fields []api.Field
	for {
		s, status, ends := m.line(api.Wire{At: 2, Line: line, Fields: fields}, longField(len(fields)))
		switch {
		case !ends:
			return false
		case status != 0:
			return m.wrong(line, nil, status)
		case s == "":
			m.tell(api.WireEvent{Kind: 2, Line: line, Fields: fields})
			return m.body(line, fields)
		}
		f, status := fieldOf(s)
		if status != 0 {
			return m.wrong(line, nil, status)
		}
		fields = append(slices.Clone(fields), f)
	}
}

// body reads the body.
func (m *model) body(line api.ReqLine, fields []api.Field) bool {
	kind, length, status := framingOf(fields)
	switch {
	case status != 0:
		return m.wrong(line, fields, status)
	case kind == 3:
		return m.chunks(line, fields)
	case len(m.left) < length:
		return m.stop(api.Wire{At: 3, Line: line, Fields: fields, Body: m.left, Left: length - len(m.left)})
	}
	m.tell(api.WireEvent{Kind: 3, Line: line, Fields: fields, Body: m.left[:length]})
	m.left = m.left[length:]
	return true
}

// chunks reads a chunked body.
func (m *model) chunks(line api.ReqLine, fields []api.Field) bool {
	c, used, _ := chunked.Feed(chunked.New(), m.left)
	m.left = m.left[used:]
	switch c.State {
	case api.ChunksBad:
		return m.wrong(line, fields, c.Status)
	case api.ChunksDone:
		m.tell(api.WireEvent{Kind: 3, Line: line, Fields: fields, Body: c.Body})
		return true
	}
	return m.stop(api.Wire{At: 4, Line: line, Fields: fields, Chunks: c})
}

// feedOf is what Feed of a new parser should return.
func feedOf(s string) (api.Wire, []api.WireEvent) {
	m := &model{left: s}
	for m.request() {
	}
	return m.w, m.events
}

// checkOf is what Check should return.
func checkOf(w api.Wire) api.Errno {
	if w.At < 1 || w.At > 5 {
		return api.ErrState
	}
	has := " " + []string{"Text", "Text Line Fields", "Line Fields Body Left", "Line Fields Chunks", ""}[w.At-1] + " "
	for name, is := range map[string]bool{"Text": w.Text != "", "Line": w.Line != api.ReqLine{}, "Fields": len(w.Fields) > 0, "Body": w.Body != "", "Left": w.Left != 0, "Chunks": w.Chunks != api.Chunks{}} {
		if is && !strings.Contains(has, " "+name+" ") {
			return api.ErrForm
		}
	}
	long := longField(len(w.Fields))
	if w.At == 1 {
		long = longLine
	}
	if strings.Contains(w.Text, "\n") || long(noCR(w.Text)) != 0 || w.At >= 2 && w.At <= 4 && !isHead(w) {
		return api.ErrForm
	}
	kind, length, _ := framingOf(w.Fields)
	switch {
	case w.At == 3 && (kind != 2 || w.Left < 1 || w.Left > length || w.Left+len(w.Body) != length):
		return api.ErrForm
	case w.At == 4 && (kind != 3 || chunked.Check(w.Chunks) != api.OK || w.Chunks.State == 7 || w.Chunks.State == 8):
		return api.ErrForm
	}
	return api.OK
}

// isHead says whether a parser has a request line and valid fields.
func isHead(w api.Wire) bool {
	return isLine(w.Line) && areFields(w.Fields)
}

// isLine says whether there is a request line of these parts.
func isLine(r api.ReqLine) bool {
	return tokenForm.MatchString(r.Method) && targetForm.MatchString(r.Target) && len(r.Method) <= mostMethod && len(r.Target) <= mostTarget
}

// areFields says whether a list of fields is valid.
func areFields(l []api.Field) bool {
	return len(l) <= mostFields && !slices.ContainsFunc(l, func(f api.Field) bool { return !isField(f) })
}

// plain is a request with a line and fields, which have to be valid, and the bytes that carry its body.
func plain(line api.ReqLine, fields []api.Field, sent string) string {
	s := fmt.Sprintf("%s %s HTTP/1.1\r\n", line.Method, line.Target)
	for _, f := range fields {
		s += fieldLine(f) + "\r\n"
	}
	return s + "\r\n" + sent
}

// sentOf are the bytes that carry a body, and whether fields allow for it.
func sentOf(fields []api.Field, body string) (string, bool) {
	kind, length, _ := framingOf(fields)
	switch {
	case kind == 3 && body == "":
		return "0\r\n\r\n", true
	case kind == 3:
		return fmt.Sprintf("%x\r\n%s\r\n0\r\n\r\n", len(body), body), len(body) <= mostBody
	}
	return body, kind != 0 && len(body) == length
}

// sameEvents says whether two lists of events are equal.
func sameEvents(a, b []api.WireEvent) bool {
	return slices.EqualFunc(a, b, func(x, y api.WireEvent) bool {
		return x.Kind == y.Kind && x.Line == y.Line && slices.Equal(x.Fields, y.Fields) && x.Body == y.Body && x.Status == y.Status
	})
}

// same says whether two parsers are equal.
func same(a, b api.Wire) bool {
	return a.At == b.At && a.Text == b.Text && a.Line == b.Line && slices.Equal(a.Fields, b.Fields) && a.Body == b.Body && a.Left == b.Left && a.Chunks == b.Chunks
}

// cut is a string to be shown.
func cut(s string) string { return fmt.Sprintf("%.30q (%d)", s, len(s)) }

// short is a parser, to be shown.
func short(w api.Wire) string {
	c := w.Chunks
	return fmt.Sprintf("{at %d, text %s, line %.40q, %d fields %.60q, body %s, %d left, chunks {%d, %d, %d, %d, %s, %s, %d, %d}}", w.At, cut(w.Text), w.Line, len(w.Fields), w.Fields, cut(w.Body), w.Left, c.State, c.Size, c.Digits, c.Left, cut(c.Body), cut(c.Line), c.Lines, c.Status)
}

// shorts are events, to be shown.
func shorts(l []api.WireEvent) string {
	s := ""
	for _, e := range l {
		s += fmt.Sprintf("[%d, line %.40q, %d fields %.60q, body %s, status %d]", e.Kind, e.Line, len(e.Fields), e.Fields, cut(e.Body), e.Status)
	}
	return s
}

// feed is what Feed of a parser that must not be refused returns.
func feed(t *testing.T, w api.Wire, s string) (api.Wire, []api.WireEvent) {
	t.Helper()
	next, l, e := wire.Feed(w, s)
	if e != api.OK {
		t.Fatalf("%s takes %.80q: %v", short(w), s, e)
	}
	return next, l
}

// checkFeed checks Feed of the bytes s from the beginning, and All of them.
func checkFeed(t *testing.T, s string) {
	t.Helper()
	want, wantEvents := feedOf(s)
	w, l := feed(t, wire.New(), s)
	if !same(w, want) || !sameEvents(l, wantEvents) {
		t.Fatalf("%.200q (%d): %s %s, not %s %s", s, len(s), short(w), shorts(l), short(want), shorts(wantEvents))
	}
	if len(s) > mostText {
		return
	}
	if l, e := wire.All(s); !sameEvents(l, wantEvents) || e != api.OK {
		t.Fatalf("All of %.200q (%d): %s %v, not %s", s, len(s), shorts(l), e, shorts(wantEvents))
	}
}

// sequences are all sequences of at most most pieces.
func sequences(most int, pieces ...string) []string {
	l := []string{""}
	from := 0
	for range most {
		to := len(l)
		for _, s := range l[from:to] {
			for _, piece := range pieces {
				l = append(l, s+piece)
			}
		}
		from = to
	}
	return l
}

// pick is one of the strings.
func pick(r *rand.Rand, l ...string) string { return l[r.Intn(len(l))] }

// noise is n bytes at most, of any value.
func noise(r *rand.Rand, n int) string {
	b := make([]byte, r.Intn(n+1))
	for i := range b {
		b[i] = byte(r.Intn(256))
	}
	return string(b)
}

// request is a request: its parts, and the bytes that carry its body.
type request struct {
	line   api.ReqLine
	fields []api.Field
	body   string
	sent   string
}

// text is the request as it is sent.
func (q request) text() string { return plain(q.line, q.fields, q.sent) }

// events are those of the request.
func (q request) events() []api.WireEvent {
	return []api.WireEvent{{Kind: 1, Line: q.line}, {Kind: 2, Line: q.line, Fields: q.fields}, {Kind: 3, Line: q.line, Fields: q.fields, Body: q.body}}
}

// randomFields are a few fields that say no framing.
func randomFields(r *rand.Rand) []api.Field {
	var l []api.Field
	for range r.Intn(4) {
		l = append(l, api.Field{Name: pick(r, "Host", "host", "X-A", "a", "~!", "Connection"), Value: pick(r, "", "h", "a b", "a\tb", "x:y", "\xff\x80", "close, keep-alive", ":", `"a"`)})
	}
	return l
}

// randomRequest is a request that is right.
func randomRequest(r *rand.Rand, most int) request {
	q := request{line: api.ReqLine{Method: pick(r, "GET", "POST", "HEAD", "a", "~!#"), Target: pick(r, "/", "/a?b", "/%20//..", "/\"?'")}, body: noise(r, most)}
	var framing api.Field
	switch r.Intn(4) {
	case 0:
		q.fields, q.body = randomFields(r), ""
		return q
	case 1:
		framing = api.Field{Name: pick(r, "Transfer-Encoding", "transfer-encoding"), Value: pick(r, "chunked", "CHUNKED", "Chunked")}
		sizes := []int{1 + r.Intn(most), 1 + r.Intn(most)}
		q.sent, _ = chunked.Encode(q.body, sizes[:r.Intn(3)])
	default:
		framing = api.Field{Name: pick(r, "Content-Length", "content-LENGTH"), Value: pick(r, "", "0", "00") + strconv.Itoa(len(q.body))}
		q.sent = q.body
	}
	q.fields = append(append(randomFields(r), framing), randomFields(r)...)
	return q
}

// samples are texts of requests, most of them with a byte that is missing, another one, or too much.
func samples(n int) []string {
	r := rand.New(rand.NewSource(1))
	var l []string
	for range n {
		s := ""
		for range 1 + r.Intn(3) {
			s += randomRequest(r, 20).text()
		}
		if at := r.Intn(len(s)); r.Intn(4) > 0 {
			s = s[:at] + pick(r, "", "\r", "\n", "\r\n", " ", "\t", ":", "/", "0", "#", "\x00", noise(r, 1)) + s[min(at+r.Intn(3), len(s)):]
		}
		l = append(l, s+noise(r, 3))
	}
	return l
}
