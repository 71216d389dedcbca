package chunked_test

import (
	"fmt"
	"math"
	"math/rand"
	"regexp"
	"slices"
	"strings"
	"testing"
	"unsafe"

	"waypost/api"
	"waypost/chunked"
)

const (
	mostBody  = 2048
	mostLine  = 512
	mostLines = 32
	mostSize  = 1<<32 - 1
)

// crlf is s with CR and LF instead of each slash, as in the chapter's examples.
func crlf(s string) string { return strings.ReplaceAll(s, "/", "\r\n") }

// text is n times the letter x.
func text(n int) string { return strings.Repeat("x", n) }

// The model: a body is read from its beginning, part by part, each part as long as its form admits.

var (
	someDigits = regexp.MustCompile(`\A[0-9a-fA-F]{0,8}`)
	lineBytes  = regexp.MustCompile(`\A[^\r\n]*`)
	trailer    = regexp.MustCompile("\\A[!#$%&'*+\\-.^_`|~0-9A-Za-z]+:[\\t\\x20-\\x7e\u0080-\u00ff]*\\z")
)

// model is a body that is read: the bytes that are left, how many were read, and the decoder behind them.
type model struct {
	left string
	used int
	c    api.Chunks
}

// skip goes over n bytes.
func (m *model) skip(n int) {
	m.left, m.used = m.left[n:], m.used+n
}

// stop makes the decoder c the last one. It returns false, so that nothing more is read.
func (m *model) stop(c api.Chunks) bool {
	c.Body = m.c.Body
	m.c = c
	return false
}

// fail makes the next byte an error, the last one to be read.
func (m *model) fail(status int) bool {
	m.skip(1)
	return m.stop(api.Chunks{State: 8, Status: status})
}

// byteOrStop reads the byte b. Without any byte, the decoder is c.
func (m *model) byteOrStop(b byte, c api.Chunks) bool {
	switch {
	case m.left == "":
		return m.stop(c)
	case m.left[0] != b:
		return m.fail(400)
	}
	m.skip(1)
	return true
}

// size reads a size and what is behind it, and says whether a chunk may follow.
func (m *model) size() (int, bool) {
	digits := someDigits.FindString(m.left)
	size := 0
	if digits != "" {
		if _, err := fmt.Sscanf(digits, "%x", &size); err != nil {
			panic(digits)
		}
	}
	m.skip(len(digits))
	if digits == "" && m.left != "" {
		return 0, m.fail(400)
	}
	if !m.byteOrStop('\r', api.Chunks{State: 0, Size: size, Digits: len(digits)}) {
		return 0, false
	}
	if m.left != "" && m.left[0] == '\n' && len(m.c.Body)+size > mostBody {
		return 0, m.fail(413)
	}
	return size, m.byteOrStop('\n', api.Chunks{State: 1, Size: size, Digits: len(digits)})
}

// data reads the data of a chunk and what is behind it.
func (m *model) data(size int) bool {
	n := min(size, len(m.left))
	m.c.Body += m.left[:n]
	m.skip(n)
	if n < size {
		return m.stop(api.Chunks{State: 2, Left: size - n})
	}
	return m.byteOrStop('\r', api.Chunks{State: 3}) && m.byteOrStop('\n', api.Chunks{State: 4})
}

// isTrailer says whether a line is a trailer line. The bytes are taken as runes, so that the expression has one for each.
func isTrailer(line string) bool {
	var runes []rune
	for i := range len(line) {
		runes = append(runes, rune(line[i]))
	}
	return trailer.MatchString(string(runes))
}

// line reads the trailer line, or the empty one, behind so many trailer lines, and says whether another one may follow.
func (m *model) line(lines int) bool {
	line := lineBytes.FindString(m.left)
	most := mostLine
	if lines == mostLines {
		most = 0
	}
	if len(line) > most {
		m.skip(most)
		return m.fail(431)
	}
	m.skip(len(line))
	if !m.byteOrStop('\r', api.Chunks{State: 5, Line: line, Lines: lines}) {
		return false
	}
	if m.left != "" && m.left[0] == '\n' && line != "" && !isTrailer(line) {
		return m.fail(400)
	}
	if !m.byteOrStop('\n', api.Chunks{State: 6, Line: line, Lines: lines}) {
		return false
	}
	return line != "" || m.stop(api.Chunks{State: 7, Lines: lines})
}

// feedOf is what Feed of a new decoder should return.
func feedOf(s string) (api.Chunks, int) {
	m := &model{left: s}
	size, goesOn := m.size()
	for goesOn && size > 0 && m.data(size) {
		size, goesOn = m.size()
	}
	if goesOn && size == 0 {
		lines := 0
		for m.line(lines) {
			lines++
		}
	}
	return m.c, m.used
}

// decodeOf is what Decode should return.
func decodeOf(s string) (string, int, int) {
	c, used := feedOf(s)
	switch c.State {
	case 7:
		return c.Body, used, 200
	case 8:
		return "", used, c.Status
	}
	return c.Body, used, 0
}

// has are the fields that decoders may have in each state, as the chapter's table has them.
var has = []string{"Size Digits", "Size Digits", "Left", "", "", "Line Lines", "Line Lines", "Lines", "Status"}

// needs are the fields that decoders must have in a state.
var needs = map[int]string{1: "Digits", 2: "Left", 8: "Status"}

// fieldsOf says which fields of a decoder, but for State and Body, are not 0 or empty.
func fieldsOf(c api.Chunks) map[string]bool {
	return map[string]bool{"Size": c.Size != 0, "Digits": c.Digits != 0, "Left": c.Left != 0, "Line": c.Line != "", "Lines": c.Lines != 0, "Status": c.Status != 0}
}

// checkOf is what Check should return.
func checkOf(c api.Chunks) api.Errno {
	if c.State < 0 || c.State > 8 {
		return api.ErrState
	}
	status := c.Status == 0 || c.Status == 400 || c.Status == 413 || c.Status == 431
	if c.Size < 0 || c.Size > mostSize || c.Digits < 0 || c.Digits > 8 || c.Left < 0 || c.Left > mostBody || c.Lines < 0 || c.Lines > mostLines || !status {
		return api.ErrRange
	}
	if len(c.Body) > mostBody-c.Left || len(c.Line) > mostLine {
		return api.ErrLong
	}
	for name, is := range fieldsOf(c) {
		if is && !strings.Contains(" "+has[c.State]+" ", " "+name+" ") || !is && needs[c.State] == name {
			return api.ErrForm
		}
	}
	if float64(c.Size) >= math.Pow(16, float64(c.Digits)) || strings.Count(c.Line, "\r")+strings.Count(c.Line, "\n") > 0 || c.Line != "" && c.Lines == mostLines {
		return api.ErrForm
	}
	return api.OK
}

// encodeOf is what Encode should return.
func encodeOf(body string, sizes []int) (string, api.Errno) {
	if len(body) > mostBody {
		return "", api.ErrLong
	}
	if len(sizes) > 0 && (slices.Min(sizes) < 1 || slices.Max(sizes) > mostBody) {
		return "", api.ErrRange
	}
	s := ""
	for body != "" {
		n := len(body)
		if len(sizes) > 0 {
			n, sizes = min(n, sizes[0]), sizes[1:]
		}
		s += fmt.Sprintf("%x\r\n%s\r\n", n, body[:n])
		body = body[n:]
	}
	return s + "0\r\n\r\n", api.OK
}

// short is a decoder, to be shown.
func short(c api.Chunks) string {
	return fmt.Sprintf("{%d, size %d, %d digits, %d left, body %.20q (%d), line %.20q (%d), %d lines, status %d}", c.State, c.Size, c.Digits, c.Left, c.Body, len(c.Body), c.Line, len(c.Line), c.Lines, c.Status)
}

// checkFeed checks Feed and Decode of the bytes s from the beginning.
func checkFeed(t *testing.T, s string) {
	t.Helper()
	want, wantUsed := feedOf(s)
	if c, used, e := chunked.Feed(chunked.New(), s); c != want || used != wantUsed || e != api.OK {
		t.Fatalf("%.80q: %s %d %v, not %s %d", s, short(c), used, e, short(want), wantUsed)
	}
	wantBody, wantUsed, wantStatus := decodeOf(s)
	if body, used, status := chunked.Decode(s); body != wantBody || used != wantUsed || status != wantStatus {
		t.Fatalf("%.80q: %.20q %d %d, not %.20q %d %d", s, body, used, status, wantBody, wantUsed, wantStatus)
	}
}

// checkEncode checks Encode.
func checkEncode(t *testing.T, body string, sizes []int) {
	t.Helper()
	want, wantErr := encodeOf(body, sizes)
	if s, e := chunked.Encode(body, sizes); s != want || e != wantErr {
		t.Fatalf("%d bytes in %.50v: %.80q %v, not %.80q %v", len(body), sizes, s, e, want, wantErr)
	}
}

// feed is the decoder behind the bytes s, which must not be refused.
func feed(t *testing.T, c api.Chunks, s string) (api.Chunks, int) {
	t.Helper()
	next, used, e := chunked.Feed(c, s)
	if e != api.OK {
		t.Fatalf("%s takes %.80q: %v", short(c), s, e)
	}
	return next, used
}

// over is whether a decoder, which must be valid, is over.
func over(t *testing.T, c api.Chunks) bool {
	t.Helper()
	is, e := chunked.Over(c)
	if e != api.OK {
		t.Fatalf("%s: %v", short(c), e)
	}
	return is
}

// rest is the rest of a decoder, which must be valid.
func rest(t *testing.T, c api.Chunks) int {
	t.Helper()
	n, e := chunked.Rest(c)
	if e != api.OK {
		t.Fatalf("%s: %v", short(c), e)
	}
	return n
}

// shortTexts are all strings of at most most bytes of an alphabet.
func shortTexts(alphabet string, most int) []string {
	l := []string{""}
	for from := 0; from < len(l) && len(l[from]) < most; from++ {
		for i := range len(alphabet) {
			l = append(l, l[from]+alphabet[i:i+1])
		}
	}
	return l
}

// pick is one of the strings.
func pick(r *rand.Rand, l ...string) string { return l[r.Intn(len(l))] }

// noise is n bytes at most, of any value.
func noise(r *rand.Rand, n int) string {
	b := make([]byte, r.Intn(n+1))
	for i := range b {
		b[i] = byte(r.Intn(256))
	}
	return string(b)
}

// sizeText is a size in digits of either case, with leading zeros.
func sizeText(r *rand.Rand, n int) string {
	s := fmt.Sprintf(pick(r, "%x", "%X"), n)
	return strings.Repeat("0", r.Intn(9-len(s))) + s
}

// trailerText is a trailer line.
func trailerText(r *rand.Rand) string {
	return pick(r, "a:", "X-Y: z", "x:\t y \t", "a::b", "~: \xff\x80", "A: b, c") + "\r\n"
}

// bodyText is a chunked body, and the body that it carries.
func bodyText(r *rand.Rand) (s, body string) {
	for range r.Intn(4) {
		data := noise(r, 40)
		if data == "" {
			continue
		}
		s += sizeText(r, len(data)) + "\r\n" + data + "\r\n"
		body += data
	}
	s += sizeText(r, 0) + "\r\n"
	for range r.Intn(4) {
		s += trailerText(r)
	}
	return s + "\r\n", body
}

// samples are chunked bodies, most of them with a byte that is missing, another one, or too much.
func samples(n int) []string {
	r := rand.New(rand.NewSource(1))
	var l []string
	for range n {
		s, _ := bodyText(r)
		s += noise(r, 3)
		if at := r.Intn(len(s)); r.Intn(4) > 0 {
			s = s[:at] + pick(r, "", "\r", "\n", "\r\n", "0", "f", ";", " ", ":", "\x00", noise(r, 1)) + s[min(at+r.Intn(3), len(s)):]
		}
		l = append(l, s)
	}
	return l
}

// isNew returns whether a result has memory of its own.
func isNew(result, argument string) bool {
	from := uintptr(unsafe.Pointer(unsafe.StringData(argument)))
	at := uintptr(unsafe.Pointer(unsafe.StringData(result)))
	return result == "" || at < from || at >= from+uintptr(len(argument))
}

// Decoders, as the chapter's table has them.

func digits(size, n int, body string) api.Chunks {
	return api.Chunks{State: api.SizeDigits, Size: size, Digits: n, Body: body}
}

func sizeEnd(size, n int, body string) api.Chunks {
	return api.Chunks{State: api.SizeLF, Size: size, Digits: n, Body: body}
}

func data(left int, body string) api.Chunks {
	return api.Chunks{State: api.DataBytes, Left: left, Body: body}
}

func dataCR(body string) api.Chunks { return api.Chunks{State: api.DataCR, Body: body} }

func dataLF(body string) api.Chunks { return api.Chunks{State: api.DataLF, Body: body} }

func trailers(line string, lines int, body string) api.Chunks {
	return api.Chunks{State: api.TrailerBytes, Line: line, Lines: lines, Body: body}
}

func trailerEnd(line string, lines int, body string) api.Chunks {
	return api.Chunks{State: api.TrailerLF, Line: line, Lines: lines, Body: body}
}

func done(lines int, body string) api.Chunks {
	return api.Chunks{State: api.ChunksDone, Lines: lines, Body: body}
}

func bad(status int, body string) api.Chunks {
	return api.Chunks{State: api.ChunksBad, Status: status, Body: body}
}

// valid are valid decoders in each state, with numbers and lengths about their limits.
func valid() []api.Chunks {
	full := text(mostBody)
	var l []api.Chunks
	for _, body := range []string{"", "b", "\x00\r\n\xff", text(2000), full[:2047], full} {
		l = append(l,
			digits(0, 0, body), digits(0, 1, body), digits(0, 8, body), digits(1, 1, body), digits(15, 1, body), digits(16, 2, body), digits(5, 8, body), digits(255, 2, body), digits(mostSize>>4, 7, body), digits(mostSize, 8, body),
			sizeEnd(0, 1, body), sizeEnd(0, 8, body), sizeEnd(3, 1, body), sizeEnd(1, 8, body), sizeEnd(48, 2, body), sizeEnd(49, 2, body), sizeEnd(2047, 3, body), sizeEnd(2048, 3, body), sizeEnd(2049, 4, body), sizeEnd(mostSize, 8, body),
			dataCR(body), dataLF(body),
			trailers("", 0, body), trailers("a", 0, body), trailers("a:b", 0, body), trailers(" \x00", 5, body), trailers("", 31, body), trailers("a:", 31, body), trailers("", 32, body), trailers("a:"+text(509), 0, body), trailers("a:"+text(510), 31, body), trailers(text(512), 0, body),
			trailerEnd("", 0, body), trailerEnd("a", 0, body), trailerEnd("a:b", 0, body), trailerEnd("", 32, body), trailerEnd("a:", 31, body), trailerEnd("a:"+text(510), 30, body), trailerEnd(" a:", 1, body),
			done(0, body), done(1, body), done(32, body),
			bad(400, body), bad(413, body), bad(431, body))
		if len(body) < mostBody {
			l = append(l, data(1, body), data(mostBody-len(body), body))
		}
		if len(body) < mostBody-1 {
			l = append(l, data(2, body))
		}
	}
	return l
}

// prefix is a beginning of a chunked body behind which a new decoder is c. There is none for decoders before and behind the CR of data that have no body.
func prefix(c api.Chunks) (string, bool) {
	if c.Body == "" && (c.State == api.DataCR || c.State == api.DataLF) {
		return "", false
	}
	if c.State == api.DataBytes {
		return fmt.Sprintf("%x\r\n%s", len(c.Body)+c.Left, c.Body), true
	}
	s := ""
	if c.Body != "" {
		s = fmt.Sprintf("%x\r\n%s", len(c.Body), c.Body)
	}
	if c.State == api.DataCR {
		return s, true
	}
	if c.State == api.DataLF {
		return s + "\r", true
	}
	if c.Body != "" {
		s += "\r\n"
	}
	size := ""
	if c.Digits > 0 {
		size = fmt.Sprintf("%0*x", c.Digits, c.Size)
	}
	tail := "0\r\n" + strings.Repeat("a:\r\n", c.Lines) + c.Line
	wrong := map[int]string{400: "g", 413: "ffffffff\r\n", 431: "0\r\n" + strings.Repeat("a:\r\n", 32) + "a"}
	return s + []string{size, size + "\r", "", "", "", tail, tail + "\r", tail + "\r\n", wrong[c.Status]}[c.State], true
}

func TestPrefixes(t *testing.T) {
	for _, c := range valid() {
		s, is := prefix(c)
		if got, used := feedOf(s); is && (got != c || used != len(s)) {
			t.Errorf("%s: %.80q is %s", short(c), s, short(got))
		}
	}
}

func TestConstants(t *testing.T) {
	states := []int{api.SizeDigits, api.SizeLF, api.DataBytes, api.DataCR, api.DataLF, api.TrailerBytes, api.TrailerLF, api.ChunksDone, api.ChunksBad}
	for i, state := range states {
		if state != i {
			t.Errorf("the state %d is %d", i, state)
		}
	}
	if api.MaxBody != mostBody || api.MaxLine != mostLine || api.MaxFields != mostLines {
		t.Error("the limits are others")
	}
}

// P10.1

func TestNew(t *testing.T) {
	c := chunked.New()
	if c != (api.Chunks{}) || c.State != api.SizeDigits || chunked.Check(c) != api.OK {
		t.Error(short(c))
	}
}

func TestCheck(t *testing.T) {
	for _, c := range valid() {
		if e := chunked.Check(c); e != api.OK {
			t.Errorf("%s: %v", short(c), e)
		}
	}
	for _, c := range []struct {
		c    api.Chunks
		want api.Errno
	}{
		{api.Chunks{State: -1}, api.ErrState},
		{api.Chunks{State: 9}, api.ErrState},
		{api.Chunks{State: math.MinInt}, api.ErrState},
		{api.Chunks{State: math.MaxInt}, api.ErrState},
		{api.Chunks{State: 256}, api.ErrState},
		{digits(-1, 0, ""), api.ErrRange},
		{digits(-1, 8, ""), api.ErrRange},
		{digits(math.MinInt, 8, ""), api.ErrRange},
		{digits(math.MaxInt, 8, ""), api.ErrRange},
		{digits(mostSize+1, 8, ""), api.ErrRange},
		{digits(mostSize, 8, ""), api.OK},
		{digits(0, 9, ""), api.ErrRange},
		{digits(0, -1, ""), api.ErrRange},
		{digits(0, math.MinInt, ""), api.ErrRange},
		{digits(0, math.MaxInt, ""), api.ErrRange},
		{data(-1, ""), api.ErrRange},
		{data(mostBody+1, ""), api.ErrRange},
		{data(math.MaxInt, text(mostBody)), api.ErrRange},
		{data(math.MinInt, ""), api.ErrRange},
		{trailers("", -1, ""), api.ErrRange},
		{trailers("", 33, ""), api.ErrRange},
		{trailers("", math.MaxInt, ""), api.ErrRange},
		{trailers("", math.MinInt, ""), api.ErrRange},
		{bad(-400, ""), api.ErrRange},
		{bad(1, ""), api.ErrRange},
		{bad(200, ""), api.ErrRange},
		{bad(399, ""), api.ErrRange},
		{bad(401, ""), api.ErrRange},
		{bad(412, ""), api.ErrRange},
		{bad(414, ""), api.ErrRange},
		{bad(430, ""), api.ErrRange},
		{bad(432, ""), api.ErrRange},
		{bad(math.MaxInt, ""), api.ErrRange},
		{digits(0, 0, text(mostBody+1)), api.ErrLong},
		{done(0, text(mostBody+1)), api.ErrLong},
		{bad(400, text(mostBody+1)), api.ErrLong},
		{data(1, text(mostBody)), api.ErrLong},
		{data(mostBody, "x"), api.ErrLong},
		{data(49, text(2000)), api.ErrLong},
		{trailers(text(513), 0, ""), api.ErrLong},
		{trailerEnd(text(513), 0, ""), api.ErrLong},
		{digits(1, 0, ""), api.ErrForm},
		{digits(16, 1, ""), api.ErrForm},
		{digits(256, 2, ""), api.ErrForm},
		{digits(mostSize, 7, ""), api.ErrForm},
		{digits(mostSize>>4+1, 7, ""), api.ErrForm},
		{sizeEnd(16, 1, ""), api.ErrForm},
		{sizeEnd(0, 0, ""), api.ErrForm},
		{data(0, ""), api.ErrForm},
		{data(0, "x"), api.ErrForm},
		{bad(0, ""), api.ErrForm},
		{trailers("\r", 0, ""), api.ErrForm},
		{trailers("a\nb", 0, ""), api.ErrForm},
		{trailerEnd("a:\r", 0, ""), api.ErrForm},
		{trailerEnd("\na:", 0, ""), api.ErrForm},
		{trailers("a", 32, ""), api.ErrForm},
		{trailerEnd("a:", 32, ""), api.ErrForm},
	} {
		if e := chunked.Check(c.c); e != c.want {
			t.Errorf("%s: %v, not %v", short(c.c), e, c.want)
		}
	}
}

// In each state, each field alone, and each two of them.
func TestFieldsOfStates(t *testing.T) {
	for state := range 9 {
		for _, one := range fieldChanges() {
			for _, two := range fieldChanges() {
				c := api.Chunks{State: state, Body: "b"}
				one(&c)
				two(&c)
				if e := chunked.Check(c); e != checkOf(c) {
					t.Errorf("%s: %v, not %v", short(c), e, checkOf(c))
				}
			}
		}
	}
}

// fieldChanges are changes of one field to a value that some state admits.
func fieldChanges() []func(*api.Chunks) {
	return []func(*api.Chunks){
		func(c *api.Chunks) { c.Size = 1 },
		func(c *api.Chunks) { c.Digits = 1 },
		func(c *api.Chunks) { c.Digits = 8 },
		func(c *api.Chunks) { c.Left = 1 },
		func(c *api.Chunks) { c.Left = 2047 },
		func(c *api.Chunks) { c.Body = "" },
		func(c *api.Chunks) { c.Line = "a" },
		func(c *api.Chunks) { c.Lines = 1 },
		func(c *api.Chunks) { c.Lines = 32 },
		func(c *api.Chunks) { c.Status = 400 },
		func(c *api.Chunks) { c.Status = 413 },
		func(c *api.Chunks) { c.Status = 431 },
	}
}

// odd are decoders with all combinations of numbers and strings about what they may be, so that they have many errors at once.
func odd(use func(api.Chunks)) {
	full := text(mostBody)
	for state := -1; state <= 9; state++ {
		for _, size := range []int{-1, 0, 1, 16, mostSize, mostSize + 1} {
			for _, n := range []int{-1, 0, 1, 2, 8, 9} {
				for _, left := range []int{-1, 0, 1, mostBody, mostBody + 1} {
					for _, body := range []string{"", "b", full, full + "x"} {
						for _, line := range []string{"", "a", "\n", text(512), text(512) + "\r"} {
							for _, lines := range []int{-1, 0, 31, 32, 33} {
								for _, status := range []int{0, 200, 400, 431} {
									use(api.Chunks{State: state, Size: size, Digits: n, Left: left, Body: body, Line: line, Lines: lines, Status: status})
								}
							}
						}
					}
				}
			}
		}
	}
}

// The errors come in their order, and before all else.
func TestOddDecoders(t *testing.T) {
	found := map[api.Errno]int{}
	odd(func(c api.Chunks) {
		want := checkOf(c)
		found[want]++
		if e := chunked.Check(c); e != want {
			t.Fatalf("%s: %v, not %v", short(c), e, want)
		}
		if want == api.OK {
			return
		}
		if next, used, e := chunked.Feed(c, "0\r\n"); next != (api.Chunks{}) || used != 0 || e != want {
			t.Fatalf("%s: %s %d %v, not %v", short(c), short(next), used, e, want)
		}
		if is, e := chunked.Over(c); is || e != want {
			t.Fatalf("%s: %v %v, not %v", short(c), is, e, want)
		}
		if n, e := chunked.Rest(c); n != 0 || e != want {
			t.Fatalf("%s: %d %v, not %v", short(c), n, e, want)
		}
	})
	for _, e := range []api.Errno{api.OK, api.ErrState, api.ErrRange, api.ErrLong, api.ErrForm} {
		if found[e] == 0 {
			t.Errorf("no decoder has %v", e)
		}
	}
}

// P10.2

// Every byte, given to valid decoders.
func TestEveryByte(t *testing.T) {
	for _, c := range valid() {
		before, is := prefix(c)
		if !is || c.State == api.ChunksDone || c.State == api.ChunksBad {
			continue
		}
		for b := range 256 {
			for _, s := range []string{string([]byte{byte(b)}), string([]byte{byte(b)}) + "\r\n\r\n", string([]byte{byte(b), byte(b)})} {
				want, all := feedOf(before + s)
				if next, used := feed(t, c, s); next != want || used != all-len(before) {
					t.Fatalf("%s takes %q: %s %d, not %s %d", short(c), s, short(next), used, short(want), all-len(before))
				}
			}
		}
	}
}

func TestFeed(t *testing.T) {
	for i, c := range []struct {
		c    api.Chunks
		data string
		next api.Chunks
		used int
	}{
		{digits(0, 0, ""), "", digits(0, 0, ""), 0},
		{digits(0, 0, ""), "5", digits(5, 1, ""), 1},
		{digits(0, 0, ""), "fF", digits(255, 2, ""), 2},
		{digits(0, 0, "b"), "aBcDeF09", digits(0xabcdef09, 8, "b"), 8},
		{digits(0, 0, ""), "00000000", digits(0, 8, ""), 8},
		{digits(0, 0, ""), "000000001", bad(400, ""), 9},
		{digits(mostSize, 8, "b"), "f", bad(400, "b"), 1},
		{digits(mostSize, 8, "b"), "\r", sizeEnd(mostSize, 8, "b"), 1},
		{digits(0, 0, "b"), "\r\n", bad(400, "b"), 1},
		{digits(0, 0, "b"), "\n", bad(400, "b"), 1},
		{digits(1, 1, "b"), "\n", bad(400, "b"), 1},
		{digits(1, 1, ""), " ", bad(400, ""), 1},
		{digits(1, 1, ""), "\t", bad(400, ""), 1},
		{digits(1, 1, ""), ";", bad(400, ""), 1},
		{digits(0, 0, ""), "-1", bad(400, ""), 1},
		{digits(0, 1, ""), "x1", bad(400, ""), 1},
		{sizeEnd(0, 1, "b"), "\n", trailers("", 0, "b"), 1},
		{sizeEnd(0, 8, text(mostBody)), "\n", trailers("", 0, text(mostBody)), 1},
		{sizeEnd(3, 1, "b"), "\n", data(3, "b"), 1},
		{sizeEnd(3, 1, "b"), "\r", bad(400, "b"), 1},
		{sizeEnd(3, 1, "b"), "x", bad(400, "b"), 1},
		{sizeEnd(2049, 3, ""), "x", bad(400, ""), 1},
		{sizeEnd(2048, 3, ""), "\n", data(2048, ""), 1},
		{sizeEnd(2049, 3, ""), "\n", bad(413, ""), 1},
		{sizeEnd(2047, 3, "b"), "\n", data(2047, "b"), 1},
		{sizeEnd(2048, 3, "b"), "\n", bad(413, "b"), 1},
		{sizeEnd(1, 1, text(2047)), "\nx\r", dataLF(text(2048)), 3},
		{sizeEnd(1, 1, text(2048)), "\nx\r", bad(413, text(2048)), 1},
		{sizeEnd(mostSize, 8, ""), "\n", bad(413, ""), 1},
		{data(2, "b"), "x", data(1, "bx"), 1},
		{data(2, "b"), "\r\n", dataCR("b\r\n"), 2},
		{data(1, ""), "\x00", dataCR("\x00"), 1},
		{data(1, ""), "\xff", dataCR("\xff"), 1},
		{data(2, ""), "é", dataCR("é"), 2},
		{dataCR("b"), "\r", dataLF("b"), 1},
		{dataCR(""), "\r", dataLF(""), 1},
		{dataCR("b"), "\n", bad(400, "b"), 1},
		{dataCR(""), "x\r", bad(400, ""), 1},
		{dataLF("b"), "\n", digits(0, 0, "b"), 1},
		{dataLF(""), "\n", digits(0, 0, ""), 1},
		{dataLF("b"), "\r", bad(400, "b"), 1},
		{dataLF(""), "5", bad(400, ""), 1},
		{trailers("", 0, "b"), "a", trailers("a", 0, "b"), 1},
		{trailers("a", 0, ""), " \x00\xff", trailers("a \x00\xff", 0, ""), 3},
		{trailers("", 0, "b"), "\n", bad(400, "b"), 1},
		{trailers("a:b", 2, "b"), "\n", bad(400, "b"), 1},
		{trailers("a:b", 2, "b"), "\r", trailerEnd("a:b", 2, "b"), 1},
		{trailers("", 32, ""), "\r", trailerEnd("", 32, ""), 1},
		{trailers("", 32, ""), "\n", bad(400, ""), 1},
		{trailers("", 32, "b"), "a", bad(431, "b"), 1},
		{trailers("", 31, ""), "a", trailers("a", 31, ""), 1},
		{trailers(text(511), 0, ""), "x", trailers(text(512), 0, ""), 1},
		{trailers(text(512), 0, "b"), "x", bad(431, "b"), 1},
		{trailers(text(512), 31, ""), ":", bad(431, ""), 1},
		{trailers(text(512), 0, ""), "\n", bad(400, ""), 1},
		{trailers(text(512), 0, ""), "\r", trailerEnd(text(512), 0, ""), 1},
		{trailerEnd("", 0, "b"), "\n", done(0, "b"), 1},
		{trailerEnd("", 32, ""), "\nx", done(32, ""), 1},
		{trailerEnd("a:", 31, "b"), "\n", trailers("", 32, "b"), 1},
		{trailerEnd("a:b", 0, ""), "\n", trailers("", 1, ""), 1},
		{trailerEnd("", 0, "b"), "\r", bad(400, "b"), 1},
		{trailerEnd("a:", 3, "b"), "x", bad(400, "b"), 1},
		{trailerEnd("a", 3, "b"), "\n", bad(400, "b"), 1},
		{trailerEnd(text(512), 0, ""), "\n", bad(400, ""), 1},
		{trailerEnd("a:"+text(510), 0, ""), "\n", trailers("", 1, ""), 1},
		{done(2, "b"), "0\r\n", done(2, "b"), 0},
		{done(0, ""), "", done(0, ""), 0},
		{bad(400, "b"), "0\r\n", bad(400, "b"), 0},
		{bad(413, ""), "x", bad(413, ""), 0},
		{bad(431, text(2048)), "\n", bad(431, text(2048)), 0},
	} {
		if next, used, e := chunked.Feed(c.c, c.data); next != c.next || used != c.used || e != api.OK {
			t.Errorf("%d: %s %d %v, not %s %d", i, short(next), used, e, short(c.next), c.used)
		}
	}
}

// What is a trailer line, and what is none.
func TestTrailerLines(t *testing.T) {
	for line, want := range map[string]bool{
		"a:":         true,
		"a:b":        true,
		"a: b":       true,
		"a:\t b \t":  true,
		"a: ":        true,
		"a::":        true,
		"a: b c:d":   true,
		"0-9_~: b":   true,
		"!#$%&'*+:":  true,
		"-.^_`|~:":   true,
		"a:\xff\x80": true,
		"a:é":        true,
		"a":          false,
		":":          false,
		":b":         false,
		" ":          false,
		" a:b":       false,
		"a :b":       false,
		"a\t:b":      false,
		"a b:c":      false,
		"(a):b":      false,
		"é:b":        false,
		"a\x00:b":    false,
		"a:\x00":     false,
		"a:b\x00c":   false,
		"a:b\x7f":    false,
		"a:\x1f":     false,
		"a: b\x0b":   false,
		"a;b":        false,
		"{:b":        false,
		"\"a\":b":    false,
		"/:b":        false,
		"a\xa0:b":    false,
	} {
		if isTrailer(line) != want {
			t.Errorf("the model of %q", line)
		}
		s := crlf("0/") + line + crlf("//")
		body, used, status := chunked.Decode(s)
		if want && (body != "" || used != len(s) || status != 200) || !want && (body != "" || used != len(s)-2 || status != 400) {
			t.Errorf("%q: %q %d %d", line, body, used, status)
		}
	}
}

func TestEveryByteOfTrailerLines(t *testing.T) {
	for b := range 256 {
		s := string([]byte{byte(b)})
		for _, line := range []string{s, s + ":", s + "a:", "a" + s + ":", "a" + s, "a:" + s, "a: " + s + " ", "a:b" + s, "a:b" + s + "c", "a:" + s + "c"} {
			for _, end := range []string{"\r\n", "\r\n\r\n", "\r", "\n", ""} {
				checkFeed(t, "0\r\n"+line+end)
				checkFeed(t, "0\r\nx:y\r\n"+line+end)
			}
		}
	}
}

func TestOver(t *testing.T) {
	for _, c := range valid() {
		if is, e := chunked.Over(c); is != (c.State == 7 || c.State == 8) || e != api.OK {
			t.Errorf("%s: %v %v", short(c), is, e)
		}
	}
}

func TestRest(t *testing.T) {
	for _, c := range valid() {
		if n, e := chunked.Rest(c); n != mostBody-len(c.Body)-c.Left || n < 0 || e != api.OK {
			t.Errorf("%s: %d %v", short(c), n, e)
		}
	}
	for s, want := range map[string]int{"": 2048, "5": 2048, "5\r": 2048, "5/": 2043, "5/ab": 2043, "5/abcde": 2043, "5/abcde/": 2043, "5/abcde/3": 2043, "5/abcde/3/": 2040, "800/": 0, "801/": 2048, "5/abcdex": 2043, "1/a/0//": 2047, "7ff/": 1} {
		c, _ := feed(t, chunked.New(), crlf(s))
		if n := rest(t, c); n != want {
			t.Errorf("%q: %d", s, n)
		}
	}
}

// Results have memory of their own.
func TestResultsAreNew(t *testing.T) {
	for _, c := range valid() {
		for _, s := range []string{"", "a", "\r", "\n"} {
			next, _ := feed(t, c, s)
			if !isNew(next.Body, c.Body) || !isNew(next.Line, c.Line) || !isNew(next.Line, s) || !isNew(next.Body, s) {
				t.Errorf("%s takes %q: a part of an argument", short(c), s)
			}
		}
	}
	for _, s := range []string{"1/a/0//", "3/abc", "800/" + text(2048), "0/a:b"} {
		s = crlf(s)
		c, _ := feed(t, chunked.New(), s)
		body, _, _ := chunked.Decode(s)
		if !isNew(body, s) || !isNew(c.Body, s) || !isNew(c.Line, s) {
			t.Errorf("%.20q: a part of the text", s)
		}
	}
}

// P10.3

func TestDecode(t *testing.T) {
	for s, want := range map[string]struct {
		body         string
		used, status int
	}{
		"":                      {"", 0, 0},
		"3/abc/0//":             {"abc", 13, 200},
		"3/abc/00/x: 1//z":      {"abc", 20, 200},
		"3/ab":                  {"ab", 5, 0},
		"3/abc":                 {"abc", 6, 0},
		"3/abc/0":               {"abc", 9, 0},
		"3/abc/0/x":             {"abc", 12, 0},
		"g":                     {"", 1, 400},
		"3 /":                   {"", 2, 400},
		"3;x":                   {"", 2, 400},
		"/":                     {"", 1, 400},
		"123456789":             {"", 9, 400},
		"801/":                  {"", 5, 413},
		"ffffffff/":             {"", 10, 413},
		"0/x//":                 {"", 6, 400},
		"3/abcd":                {"", 7, 400},
		"0//":                   {"", 5, 200},
		"0//0//":                {"", 5, 200},
		"00000000//":            {"", 12, 200},
		"000000000//":           {"", 9, 400},
		"00000002/ab/0//":       {"ab", 19, 200},
		"000000002/ab/0//":      {"", 9, 400},
		"A/0123456789/0//":      {"0123456789", 20, 200},
		"2/ab/1/c/0//":          {"abc", 18, 200},
		"2/ab/801/":             {"", 12, 413},
		"2/ab/7ff/":             {"", 12, 413},
		"2/ab/7fe/":             {"ab", 12, 0},
		"2/ab0//":               {"", 6, 400},
		"2/ab//0//":             {"", 8, 400},
		"0x2/ab/0//":            {"", 2, 400},
		"+2/ab/0//":             {"", 1, 400},
		"2/ab/0/a:b/c:d//":      {"ab", 22, 200},
		"2/ab/0/a:b":            {"ab", 13, 0},
		"2/ab/0/a b/":           {"", 15, 400},
		"2/ab/0/a:b/ /":         {"", 18, 400},
		"4/\r\n\r\n/0//":        {"\r\n\r\n", 14, 200},
		"5/0//0//":              {"", 9, 400},
		"5/0///0//":             {"0\r\n\r\n", 15, 200},
		"1/\x00/1/\xff/0//":     {"\x00\xff", 17, 200},
		"10/0123456789abcdef/0": {"0123456789abcdef", 23, 0},
	} {
		body, used, status := chunked.Decode(crlf(s))
		if body != want.body || used != want.used || status != want.status {
			t.Errorf("%q: %q %d %d", s, body, used, status)
		}
		checkFeed(t, crlf(s))
	}
}

func TestShortTexts(t *testing.T) {
	for _, s := range shortTexts("01aF\r\n", 6) {
		checkFeed(t, s)
	}
	for _, s := range shortTexts("0a:\r\n x", 5) {
		checkFeed(t, "0\r\n"+s)
		checkFeed(t, "1\r\n"+s)
		checkFeed(t, "2\r\nab\r\n0\r\nb:\r\n"+s)
		checkFeed(t, "00000000"+s)
	}
}

// All that a piece of a chunked body can be followed by, piece by piece.
func TestPieces(t *testing.T) {
	pieces := []string{"0", "1", "B", "x", "\r\n", "\r", "\n", "a:b", " "}
	l := []string{""}
	for from := 0; from < len(l) && len(l) < 60000; from++ {
		for _, piece := range pieces {
			l = append(l, l[from]+piece)
		}
	}
	for _, s := range l {
		checkFeed(t, s)
	}
}

func TestSamples(t *testing.T) {
	for _, s := range samples(20000) {
		checkFeed(t, s)
	}
}

// Sizes, bodies and lines about as long as their limits.
func TestLimits(t *testing.T) {
	for _, size := range []int{1, 15, 16, 255, 256, 1024, 2046, 2047, 2048, 2049, 4095, 4096, 65536, 1 << 28, mostSize} {
		for _, before := range []int{0, 1, 2, 1024, 2046, 2047, 2048} {
			s, e := chunked.Encode(text(before), nil)
			if e != api.OK {
				t.Fatal(e)
			}
			s = strings.TrimSuffix(s, "0\r\n\r\n") + fmt.Sprintf("%x\r\n", size)
			checkFeed(t, s)
			checkFeed(t, s+text(2000))
			checkFeed(t, s+text(min(size, 3000))+"\r\n0\r\n\r\n")
		}
	}
	for n := 508; n <= 515; n++ {
		for _, line := range []string{text(n), "a:" + text(n-2), text(n-1) + ":"} {
			for _, end := range []string{"", "\r", "\n", "\r\n", "\r\n\r\n", "\r\na:\r\n\r\n"} {
				checkFeed(t, "0\r\n"+line+end)
			}
		}
	}
	for n := 30; n <= 34; n++ {
		for _, end := range []string{"", "\r", "\n", "\r\n", "a", "a:", "a:\r\n", ":", "\r\n\r\n"} {
			checkFeed(t, "0\r\n"+strings.Repeat("a:b\r\n", n)+end)
			checkFeed(t, "1\r\nx\r\n0\r\n"+strings.Repeat("a:\r\n", n)+end)
		}
	}
}

// Long texts come to an end, too.
func TestLongTexts(t *testing.T) {
	for _, s := range []string{"0", "1", "\r", "\n", "0\r\n", "1\r\nx\r\n", "a:\r\n", "\x00"} {
		long := strings.Repeat(s, 1000000/len(s))
		checkFeed(t, long)
		checkFeed(t, "0\r\n"+long)
		checkFeed(t, "0\r\n\r\n"+long)
		checkFeed(t, "800\r\n"+long)
	}
}

// P10.4

func TestEncode(t *testing.T) {
	for i, c := range []struct {
		body  string
		sizes []int
		want  string
		e     api.Errno
	}{
		{"abcde", []int{2}, "2/ab/3/cde/0//", api.OK},
		{"abc", []int{9}, "3/abc/0//", api.OK},
		{"", nil, "0//", api.OK},
		{"", []int{}, "0//", api.OK},
		{"", []int{1, 2048}, "0//", api.OK},
		{"a", nil, "1/a/0//", api.OK},
		{"abc", []int{3}, "3/abc/0//", api.OK},
		{"abc", []int{2, 1, 1}, "2/ab/1/c/0//", api.OK},
		{"abc", []int{1, 1, 1}, "1/a/1/b/1/c/0//", api.OK},
		{"abc", []int{1, 2048}, "1/a/2/bc/0//", api.OK},
		{"abcdef", []int{3, 1}, "3/abc/1/d/2/ef/0//", api.OK},
		{text(10), nil, "a/" + text(10) + "/0//", api.OK},
		{text(31), []int{15, 16}, "f/" + text(15) + "/10/" + text(16) + "/0//", api.OK},
		{text(171), []int{2048}, "ab/" + text(171) + "/0//", api.OK},
		{text(2048), nil, "800/" + text(2048) + "/0//", api.OK},
		{text(2048), []int{2048}, "800/" + text(2048) + "/0//", api.OK},
		{text(2048), []int{1}, "1/x/7ff/" + text(2047) + "/0//", api.OK},
		{text(2049), nil, "", api.ErrLong},
		{text(2049), []int{1}, "", api.ErrLong},
		{text(2049), []int{0}, "", api.ErrLong},
		{text(100000), []int{-1}, "", api.ErrLong},
		{"a", []int{0}, "", api.ErrRange},
		{"a", []int{-1}, "", api.ErrRange},
		{"a", []int{2049}, "", api.ErrRange},
		{"a", []int{math.MaxInt}, "", api.ErrRange},
		{"a", []int{math.MinInt}, "", api.ErrRange},
		{"a", []int{1, 1, 0}, "", api.ErrRange},
		{"", []int{0}, "", api.ErrRange},
		{"", []int{5, 2049}, "", api.ErrRange},
		{text(2048), []int{2048, 0}, "", api.ErrRange},
		{"\x00\r\n\xff", []int{1, 2}, "1/\x00/2/\r\n/1/\xff/0//", api.OK},
	} {
		given := slices.Clone(c.sizes)
		s, e := chunked.Encode(c.body, c.sizes)
		if s != crlf(c.want) || e != c.e {
			t.Errorf("%d: %.80q %v", i, s, e)
		}
		if !isNew(s, c.body) || !slices.Equal(given, c.sizes) {
			t.Errorf("%d: a part of an argument, or a change of it", i)
		}
		checkEncode(t, c.body, c.sizes)
	}
}

func TestAllLengths(t *testing.T) {
	for n := range mostBody + 2 {
		checkEncode(t, text(n), nil)
		checkEncode(t, text(n), []int{n/2 + 1})
		checkEncode(t, text(n), []int{max(n, 1)})
	}
}

// randomSizes are a few sizes, and sometimes one that is none.
func randomSizes(r *rand.Rand) []int {
	var sizes []int
	for range r.Intn(6) {
		sizes = append(sizes, 1+r.Intn([]int{3, 30, 2048}[r.Intn(3)]))
	}
	if r.Intn(8) == 0 {
		sizes = append(sizes, []int{0, -1, 2049, math.MaxInt, math.MinInt}[r.Intn(5)])
		r.Shuffle(len(sizes), func(i, j int) { sizes[i], sizes[j] = sizes[j], sizes[i] })
	}
	return sizes
}

func TestRandomSizes(t *testing.T) {
	r := rand.New(rand.NewSource(4))
	for range 5000 {
		checkEncode(t, noise(r, 60), randomSizes(r))
		checkEncode(t, noise(r, 2060), randomSizes(r))
	}
	checkEncode(t, text(2048), slices.Repeat([]int{1}, 2048))
	checkEncode(t, text(2048), slices.Repeat([]int{1}, 2047))
	checkEncode(t, text(2048), slices.Repeat([]int{1}, 10000))
}

// The sizes behind an argument stay as they are, even where their array has room.
func TestSizesAreNotChanged(t *testing.T) {
	array := []int{2, 7, 8, 9}
	if _, e := chunked.Encode("abcdef", array[:1]); e != api.OK || !slices.Equal(array, []int{2, 7, 8, 9}) {
		t.Error(e, array)
	}
}

// P10.5

func TestDecodersStayValid(t *testing.T) {
	r := rand.New(rand.NewSource(5))
	for _, c := range valid() {
		for range 200 {
			s := pick(r, noise(r, 20), "\r\n", "\n", "\r", "x\r\n", "a:b\r\n", "0\r\n", "5\r\nabcde\r\n", text(2100))
			next, used := feed(t, c, s)
			if e := chunked.Check(next); e != api.OK || used < 0 || used > len(s) || used < len(s) && !over(t, next) {
				t.Fatalf("%s takes %.80q: %s %d %v", short(c), s, short(next), used, e)
			}
		}
	}
}

// checkDivision checks that feeding in two parts is feeding at once.
func checkDivision(t *testing.T, c api.Chunks, first, second string) {
	t.Helper()
	whole, all := feed(t, c, first+second)
	middle, used := feed(t, c, first)
	end, more := feed(t, middle, second)
	if end != whole || used+more != all {
		t.Fatalf("%s takes %.40q and %.40q: %s %d, not %s %d", short(c), first, second, short(end), used+more, short(whole), all)
	}
}

func TestDivisions(t *testing.T) {
	for _, s := range append(samples(2000), shortTexts("01a:\r\n", 5)...) {
		for at := range len(s) + 1 {
			checkDivision(t, chunked.New(), s[:at], s[at:])
		}
		c := chunked.New()
		all := 0
		for i := range len(s) {
			next, used := feed(t, c, s[i:i+1])
			if chunked.Check(next) != api.OK || used != 1 && !over(t, c) {
				t.Fatalf("%.80q: %s %d", s, short(next), used)
			}
			c, all = next, all+used
		}
		if whole, n := feedOf(s); c != whole || all != n {
			t.Fatalf("%.80q: %s %d, not %s %d", s, short(c), all, short(whole), n)
		}
	}
	for _, c := range valid() {
		for _, s := range []string{"\r\n\r\n", "0\r\n\r\n", "\n1\r\nx\r\n0\r\na:\r\n\r\n0", "xyz", "a:b\r\n"} {
			for at := range len(s) + 1 {
				checkDivision(t, c, s[:at], s[at:])
			}
		}
	}
}

// P10.6

func TestDecodeOfEncode(t *testing.T) {
	r := rand.New(rand.NewSource(6))
	for i := range 4000 {
		body := noise(r, []int{5, 60, 2048}[i%3])
		var sizes []int
		for range r.Intn(9) {
			sizes = append(sizes, 1+r.Intn([]int{2, 20, 2048}[r.Intn(3)]))
		}
		s, e := chunked.Encode(body, sizes)
		if e != api.OK {
			t.Fatalf("%d bytes in %v: %v", len(body), sizes, e)
		}
		for _, behind := range []string{"", "x", "\r\n", "0\r\n\r\n", noise(r, 50), s} {
			if got, used, status := chunked.Decode(s + behind); got != body || used != len(s) || status != 200 {
				t.Fatalf("%d bytes in %v: %.20q %d %d", len(body), sizes, got, used, status)
			}
		}
	}
	for n := range mostBody + 1 {
		s, e := chunked.Encode(text(n), nil)
		if got, used, status := chunked.Decode(s + "z"); got != text(n) || used != len(s) || status != 200 || e != api.OK {
			t.Fatalf("%d bytes: %d bytes, %d %d %v", n, len(got), used, status, e)
		}
	}
}

// P10.7

func TestNothingChangesBehindAnError(t *testing.T) {
	r := rand.New(rand.NewSource(7))
	for _, s := range samples(5000) {
		c, used := feed(t, chunked.New(), s)
		if len(c.Body) > mostBody || over(t, c) != (c.State == api.ChunksBad || c.State == api.ChunksDone) {
			t.Fatalf("%.80q: %s", s, short(c))
		}
		if !over(t, c) {
			continue
		}
		for _, more := range []string{"", "0", "\r\n", "0\r\n\r\n", noise(r, 30)} {
			if next, n := feed(t, c, more); next != c || n != 0 {
				t.Fatalf("%s takes %q: %s %d", short(c), more, short(next), n)
			}
			if next, n := feed(t, chunked.New(), s[:used]+more); next != c || n != used {
				t.Fatalf("%.80q and %q: %s %d, not %s %d", s[:used], more, short(next), n, short(c), used)
			}
		}
	}
}

func TestNoBodyIsTooLong(t *testing.T) {
	for _, size := range []int{1, 2, 3, 100, 1023, 1024, 1025, 2047, 2048} {
		one := fmt.Sprintf("%x\r\n%s\r\n", size, text(size))
		s := strings.Repeat(one, mostBody/size+2)
		c, used := feed(t, chunked.New(), s)
		most := mostBody / size
		if len(c.Body) != most*size || c.State != api.ChunksBad || c.Status != 413 || used != most*len(one)+strings.Index(one, "\n")+1 {
			t.Errorf("%d: %s %d", size, short(c), used)
		}
		if body, _, status := chunked.Decode(s); body != "" || status != 413 {
			t.Errorf("%d: %d bytes, %d", size, len(body), status)
		}
		if body, _, status := chunked.Decode(s[:most*len(one)] + "0\r\n\r\n"); len(body) != most*size || status != 200 {
			t.Errorf("%d: %d bytes, %d", size, len(body), status)
		}
	}
}

// P10.8

func TestBodyGrows(t *testing.T) {
	long, e := chunked.Encode(text(2048), []int{1000, 1, 500})
	if e != api.OK {
		t.Fatal(e)
	}
	for _, s := range append(samples(3000), long) {
		c := chunked.New()
		for i := range len(s) {
			next, _ := feed(t, c, s[i:i+1])
			grown := next.Body == c.Body+s[i:i+1]
			if c.State == api.DataBytes && !grown || c.State != api.DataBytes && next.Body != c.Body {
				t.Fatalf("%.80q: %s behind %s", s, short(next), short(c))
			}
			if rest(t, next) > rest(t, c) {
				t.Fatalf("%.80q: %d are left behind %d", s, rest(t, next), rest(t, c))
			}
			c = next
		}
	}
}

// P10.9

// plain is a body in chunks of the given texts, without anything that is not needed.
func plain(l []string) string {
	s := ""
	for _, one := range l {
		s += fmt.Sprintf("%x\r\n%s\r\n", len(one), one)
	}
	return s + "0\r\n\r\n"
}

// decorated is the same in sizes with leading zeros and digits in either case, with trailer lines.
func decorated(r *rand.Rand, l []string) string {
	s := ""
	for _, one := range l {
		s += sizeText(r, len(one)) + "\r\n" + one + "\r\n"
	}
	s += sizeText(r, 0) + "\r\n"
	for range r.Intn(mostLines + 1) {
		s += trailerText(r)
	}
	return s + "\r\n"
}

func TestZerosCaseAndTrailersDoNotMatter(t *testing.T) {
	r := rand.New(rand.NewSource(9))
	for range 3000 {
		var l []string
		for range r.Intn(6) {
			if one := noise(r, 200); one != "" {
				l = append(l, one)
			}
		}
		for _, s := range []string{plain(l), decorated(r, l)} {
			if body, used, status := chunked.Decode(s); body != strings.Join(l, "") || used != len(s) || status != 200 {
				t.Fatalf("%.80q: %.20q %d %d", s, body, used, status)
			}
		}
	}
	for size := 1; size <= mostBody; size++ {
		for _, format := range []string{"%x", "%X", "%08x", "%08X"} {
			s := fmt.Sprintf(format, size) + "\r\n" + text(size) + "\r\n0\r\n\r\n"
			if body, used, status := chunked.Decode(s); body != text(size) || used != len(s) || status != 200 {
				t.Fatalf("%.20q: %d bytes, %d %d", s, len(body), used, status)
			}
		}
	}
}
