package respond_test

import (
	"fmt"
	"math/rand"
	"regexp"
	"slices"
	"strings"
	"testing"
	"unsafe"

	"waypost/api"
	"waypost/respond"
)

// The limits.
const (
	mostName   = 40
	mostValue  = 1024
	mostFields = 32
	mostBody   = 4096
)

// The lines with which responses begin and go on, with their ends.
const (
	ok      = "HTTP/1.1 200 OK\r\n"
	empty   = "Content-Length: 0\r\n"
	closing = "Connection: close\r\n"
)

// hi is the first response of the chapter's examples.
const hi = ok + "Content-Length: 2\r\n\r\nhi"

// reasons are the chapter's codes.
func reasons() map[int]string {
	return map[int]string{
		200: "OK", 301: "Moved Permanently", 302: "Found", 303: "See Other", 307: "Temporary Redirect",
		308: "Permanent Redirect", 400: "Bad Request", 403: "Forbidden", 404: "Not Found", 405: "Method Not Allowed",
		410: "Gone", 413: "Content Too Large", 414: "URI Too Long", 431: "Request Header Fields Too Large", 500: "Internal Server Error",
	}
}

// codes are the codes, in order.
func codes() []int {
	var l []int
	for code := range reasons() {
		l = append(l, code)
	}
	slices.Sort(l)
	return l
}

var (
	nameForm  = regexp.MustCompile("\\A[!#$%&'*+\\-.^_`|~0-9A-Za-z]{1,40}\\z")
	keptForm  = regexp.MustCompile(`\A(?:[Cc][Oo][Nn][Tt][Ee][Nn][Tt]-[Ll][Ee][Nn][Gg][Tt][Hh]|[Tt][Rr][Aa][Nn][Ss][Ff][Ee][Rr]-[Ee][Nn][Cc][Oo][Dd][Ii][Nn][Gg]|[Cc][Oo][Nn][Nn][Ee][Cc][Tt][Ii][Oo][Nn])\z`)
	valueForm = regexp.MustCompile(`\A(?:[!-~](?:[ -~]*[!-~])?)?\z`)
	lengthNo  = regexp.MustCompile(`\AContent-Length: (0|[1-9][0-9]{0,3})\z`)
)

// f is a field.
func f(name, value string) api.Field { return api.Field{Name: name, Value: value} }

// text is n times the letter x.
func text(n int) string { return strings.Repeat("x", n) }

// fields are n fields.
func fields(n int) []api.Field { return slices.Repeat([]api.Field{f("a", "b")}, n) }

// reasonOf is what Reason should return.
func reasonOf(code int) (string, api.Errno) {
	if reason := reasons()[code]; reason != "" {
		return reason, api.OK
	}
	return "", api.ErrKind
}

// mayOf is what May should return.
func mayOf(f api.Field) api.Errno {
	switch {
	case !nameForm.MatchString(f.Name) || keptForm.MatchString(f.Name):
		return api.ErrName
	case len(f.Value) > mostValue:
		return api.ErrLong
	case !valueForm.MatchString(f.Value):
		return api.ErrForm
	}
	return api.OK
}

// checkOf is what Check should return.
func checkOf(r api.Response) api.Errno {
	if reasons()[r.Code] == "" {
		return api.ErrKind
	}
	if len(r.Fields) > mostFields {
		return api.ErrFull
	}
	if wrong := slices.IndexFunc(r.Fields, func(f api.Field) bool { return mayOf(f) != api.OK }); wrong >= 0 {
		return mayOf(r.Fields[wrong])
	}
	if len(r.Body) > mostBody {
		return api.ErrLong
	}
	return api.OK
}

// textOf is what Text should return.
func textOf(r api.Response) (string, api.Errno) {
	if e := checkOf(r); e != api.OK {
		return "", e
	}
	lines := []string{fmt.Sprintf("HTTP/1.1 %d %s", r.Code, reasons()[r.Code])}
	for _, f := range r.Fields {
		lines = append(lines, fmt.Sprintf("%s: %s", f.Name, f.Value))
	}
	lines = append(lines, fmt.Sprintf("Content-Length: %d", len(r.Body)))
	if r.Close {
		lines = append(lines, "Connection: close")
	}
	s := strings.Join(append(lines, "", ""), "\r\n")
	if r.Head {
		return s, api.OK
	}
	return s + r.Body, api.OK
}

// fieldOf is the field that a line has, and whether there is one.
func fieldOf(line string) (api.Field, bool) {
	at := strings.IndexByte(line, ':')
	if at < 0 || !strings.HasPrefix(line[at:], ": ") {
		return api.Field{}, false
	}
	g := f(line[:at], line[at+2:])
	return g, mayOf(g) == api.OK
}

// The places of lines in a response. A line of a field may be one of the lines behind it, too.
const (
	codePlace = iota
	fieldPlace
	closePlace
	emptyPlace
	bodyPlace
)

// place adds to r what a line says at a place, and returns the place behind it, and the length of the body if it is said; the place is -1 if it is no line for it.
func place(at int, line string, r *api.Response) (next, length int) {
	switch {
	case at == codePlace:
		for code, reason := range reasons() {
			if line == fmt.Sprint("HTTP/1.1 ", code, " ", reason) {
				r.Code = code
				return fieldPlace, 0
			}
		}
	case at == fieldPlace:
		if g, is := fieldOf(line); is && len(r.Fields) < mostFields {
			r.Fields = append(r.Fields, g)
			return fieldPlace, 0
		}
		if m := lengthNo.FindStringSubmatch(line); m != nil {
			n := 0
			for _, digit := range m[1] {
				n = 10*n + int(digit-'0')
			}
			if n <= mostBody {
				return closePlace, n
			}
		}
	case at == closePlace && line == "Connection: close":
		r.Close = true
		return emptyPlace, 0
	case line == "":
		return bodyPlace, 0
	}
	return -1, 0
}

// parseOf is what Parse should return.
func parseOf(s string, head bool) (api.Response, int, api.Fault) {
	r := api.Response{Head: head}
	length, rest := 0, s
	for at := codePlace; at != bodyPlace; {
		wrong := api.Fault{Err: api.ErrForm, At: len(s) - len(rest)}
		end := strings.Index(rest, "\r\n")
		if end < 0 {
			return api.Response{}, 0, wrong
		}
		next, n := place(at, rest[:end], &r)
		if next < 0 {
			return api.Response{}, 0, wrong
		}
		length += n
		at, rest = next, rest[end+2:]
	}
	if head {
		return r, len(s) - len(rest), api.Fault{}
	}
	if len(rest) < length {
		return api.Response{}, 0, api.Fault{Err: api.ErrForm, At: len(s)}
	}
	r.Body = rest[:length]
	return r, len(s) - len(rest) + length, api.Fault{}
}

// allOf is what All should return.
func allOf(s string, heads []bool) ([]api.Response, api.Fault) {
	var l []api.Response
	rest := s
	for _, head := range heads {
		r, used, g := parseOf(rest, head)
		if g.Err != api.OK {
			g.At += len(s) - len(rest)
			return nil, g
		}
		l, rest = append(l, r), rest[used:]
	}
	if rest != "" {
		return nil, api.Fault{Err: api.ErrForm, At: len(s) - len(rest)}
	}
	return l, api.Fault{}
}

// same says whether two responses are equal.
func same(a, b api.Response) bool {
	return a.Code == b.Code && slices.Equal(a.Fields, b.Fields) && a.Body == b.Body && a.Close == b.Close && a.Head == b.Head
}

// cut is a string to be shown.
func cut(s string) string { return fmt.Sprintf("%.120q (%d)", s, len(s)) }

// short is a response, to be shown.
func short(r api.Response) string {
	return fmt.Sprintf("{%d, %d fields %.80q, body %s, close %v, head %v}", r.Code, len(r.Fields), r.Fields, cut(r.Body), r.Close, r.Head)
}

// checkField checks May of a field against the model.
func checkField(t *testing.T, g api.Field) {
	t.Helper()
	if got := respond.May(g); got != mayOf(g) {
		t.Fatalf("%s: %s: %v, not %v", cut(g.Name), cut(g.Value), got, mayOf(g))
	}
}

// checkText checks Check and Text of a response against the model.
func checkText(t *testing.T, r api.Response) {
	t.Helper()
	want, wantErr := textOf(r)
	if e := respond.Check(r); e != wantErr {
		t.Fatalf("%s is checked: %v, not %v", short(r), e, wantErr)
	}
	if got, e := respond.Text(r); got != want || e != wantErr {
		t.Fatalf("%s: %s %v, not %s %v", short(r), cut(got), e, cut(want), wantErr)
	}
}

// checkParse checks Parse of a text against the model, with Head and without.
func checkParse(t *testing.T, s string) {
	t.Helper()
	for _, head := range []bool{false, true} {
		want, wantUsed, wantFault := parseOf(s, head)
		r, used, g := respond.Parse(s, head)
		if !same(r, want) || used != wantUsed || g != wantFault {
			t.Fatalf("%s, head %v: %s %d %v, not %s %d %v", cut(s), head, short(r), used, g, short(want), wantUsed, wantFault)
		}
	}
}

// checkAll checks All against the model.
func checkAll(t *testing.T, s string, heads []bool) {
	t.Helper()
	want, wantFault := allOf(s, heads)
	l, g := respond.All(s, heads)
	if !slices.EqualFunc(l, want, same) || g != wantFault {
		t.Fatalf("%s, heads %v: %d responses, %v, not %d, %v", cut(s), heads, len(l), g, len(want), wantFault)
	}
}

// sent is the text of a response that can be sent.
func sent(t *testing.T, r api.Response) string {
	t.Helper()
	s, e := respond.Text(r)
	if e != api.OK {
		t.Fatalf("%s: %v", short(r), e)
	}
	return s
}

// pick is one of the strings.
func pick(r *rand.Rand, l ...string) string { return l[r.Intn(len(l))] }

// noise is n bytes at most, of any value.
func noise(r *rand.Rand, n int) string {
	b := make([]byte, r.Intn(n+1))
	for i := range b {
		b[i] = byte(r.Intn(256))
	}
	return string(b)
}

// randomResponse is a response that can be sent.
func randomResponse(r *rand.Rand) api.Response {
	q := api.Response{Code: codes()[r.Intn(len(codes()))], Close: r.Intn(2) == 0, Head: r.Intn(2) == 0}
	for range r.Intn(5) {
		q.Fields = append(q.Fields, f(pick(r, "Location", "Content-Type", "a", "A", "~!", "Content-Lengths", text(mostName)), pick(r, "", "b", "a: b", ":", "http://h/a b", "~", `"\`, "Connection: close", text(mostValue))))
	}
	q.Body = pick(r, "", "\r\n", "\r\n\r\n", hi, "Connection: close\r\n\r\n", text(mostBody), noise(r, 30), noise(r, 300))
	return q
}

// responses are n responses that can be sent.
func responses(n int) []api.Response {
	r := rand.New(rand.NewSource(1))
	var l []api.Response
	for range n {
		l = append(l, randomResponse(r))
	}
	return l
}

// samples are texts of responses, most of them with a byte that is missing, another one, or too much.
func samples(n int) []string {
	r := rand.New(rand.NewSource(2))
	var l []string
	for range n {
		s, _ := textOf(randomResponse(r))
		if at := r.Intn(min(len(s), 150)); r.Intn(4) > 0 {
			s = s[:at] + pick(r, "", "\r", "\n", "\r\n", " ", "\t", ":", ": ", "0", "1", "\x00", "\x7f", closing, empty, noise(r, 1)) + s[min(at+r.Intn(3), len(s)):]
		}
		l = append(l, s+noise(r, 3))
	}
	return l
}

// sequences are all sequences of at most most pieces.
func sequences(most int, pieces ...string) []string {
	l := []string{""}
	from := 0
	for range most {
		to := len(l)
		for _, s := range l[from:to] {
			for _, piece := range pieces {
				l = append(l, s+piece)
			}
		}
		from = to
	}
	return l
}

// isNew says whether a result has memory of its own.
func isNew(result, argument string) bool {
	from := uintptr(unsafe.Pointer(unsafe.StringData(argument)))
	at := uintptr(unsafe.Pointer(unsafe.StringData(result)))
	return result == "" || at < from || at >= from+uintptr(len(argument))
}
