package line_test

import (
	"math"
	"math/rand"
	"slices"
	"strings"
	"testing"
	"unsafe"

	"waypost/api"
	"waypost/line"
)

// greatest is the greatest limit.
const greatest = 1536

func four(text string) api.Lines { return api.Lines{Limit: 4, Text: text} }

func longOf(limit int) api.Lines { return api.Lines{Limit: limit, Long: true} }

func good(text string) api.Line { return api.Line{Text: text, Good: true} }

func bad(text string) api.Line { return api.Line{Text: text} }

// errorOf is what Check should return.
func errorOf(l api.Lines) api.Errno {
	if l.Limit < 1 || l.Limit > greatest {
		return api.ErrRange
	}
	if len(l.Text) > l.Limit {
		return api.ErrLong
	}
	if strings.Count(l.Text, "\n") > 0 || l.Long && len(l.Text) > 0 {
		return api.ErrForm
	}
	return api.OK
}

// feedError is what Feed and One should return as an error.
func feedError(l api.Lines) api.Errno {
	if e := errorOf(l); e != api.OK || !l.Long {
		return e
	}
	return api.ErrState
}

// lineOf is the line with these bytes before its LF.
func lineOf(before string) api.Line {
	if !strings.HasSuffix(before, "\r") {
		return bad(before)
	}
	text := before[:len(before)-1]
	return api.Line{Text: text, Good: strings.Count(text, "\r")+strings.Count(text, "\x00") == 0}
}

// feedOf is what Feed should return: all bytes from the beginning of the line, taken apart at each LF.
func feedOf(l api.Lines, chunk string) (api.Lines, []api.Line, api.Errno) {
	if e := feedError(l); e != api.OK {
		return api.Lines{}, nil, e
	}
	var lines []api.Line
	parts := strings.Split(l.Text+chunk, "\n")
	for i, part := range parts {
		if len(part) > l.Limit {
			return longOf(l.Limit), lines, api.OK
		}
		if i < len(parts)-1 {
			lines = append(lines, lineOf(part))
		}
	}
	return api.Lines{Limit: l.Limit, Text: parts[len(parts)-1]}, lines, api.OK
}

// single is a result of One.
type single struct {
	next api.Lines
	line api.Line
	rest string
	is   bool
	e    api.Errno
}

// oneOf is what One should return.
func oneOf(l api.Lines, chunk string) single {
	next, lines, e := feedOf(l, chunk)
	if len(lines) == 0 {
		return single{next: next, e: e}
	}
	_, rest, _ := strings.Cut(chunk, "\n")
	return single{api.Lines{Limit: l.Limit}, lines[0], rest, true, api.OK}
}

// splitOf is what Split should return.
func splitOf(s string, limit int) ([]api.Line, string, api.Errno) {
	next, lines, e := feedOf(api.Lines{Limit: limit}, s)
	if e != api.OK {
		return nil, "", e
	}
	if next.Long {
		return nil, "", api.ErrLong
	}
	return lines, next.Text, api.OK
}

// one is the result of One.
func one(l api.Lines, chunk string) single {
	next, x, rest, is, e := line.One(l, chunk)
	return single{next, x, rest, is, e}
}

// few are the first ones of many lines, to be shown.
func few(l []api.Line) []api.Line { return l[:min(len(l), 10)] }

// check checks Feed and One of a splitter and a chunk, and Check and Rest of the splitter, against the model.
func check(t *testing.T, l api.Lines, chunk string) {
	t.Helper()
	next, lines, e := line.Feed(l, chunk)
	if want, all, wantErr := feedOf(l, chunk); next != want || !slices.Equal(lines, all) || e != wantErr {
		t.Fatalf("%#v takes %.80q: %#v %#v %v, not %#v %#v %v", l, chunk, next, few(lines), e, want, few(all), wantErr)
	}
	if got, want := one(l, chunk), oneOf(l, chunk); got != want {
		t.Fatalf("%#v takes one of %.80q: %#v, not %#v", l, chunk, got, want)
	}
	if e := line.Check(l); e != errorOf(l) {
		t.Fatalf("%#v: %v", l, e)
	}
	text, e := line.Rest(l)
	if e != errorOf(l) || e == api.OK && text != l.Text || e != api.OK && text != "" {
		t.Fatalf("%#v: %q %v", l, text, e)
	}
}

// checkSplit checks Split against the model.
func checkSplit(t *testing.T, s string, limit int) {
	t.Helper()
	want, rest, wantErr := splitOf(s, limit)
	if lines, text, e := line.Split(s, limit); !slices.Equal(lines, want) || text != rest || e != wantErr {
		t.Fatalf("%.80q, limit %d: %#v %q %v", s, limit, few(lines), text, e)
	}
}

// shortTexts are all strings of at most most bytes of an alphabet.
func shortTexts(alphabet string, most int) []string {
	l := []string{""}
	for from := 0; from < len(l) && len(l[from]) < most; from++ {
		for i := range len(alphabet) {
			l = append(l, l[from]+alphabet[i:i+1])
		}
	}
	return l
}

// samples are texts put together from pieces of lines, and random bytes.
func samples(n int) []string {
	r := rand.New(rand.NewSource(1))
	pieces := []string{"a", "Host: a", "\r\n", "\r\n", "\r\n", "\n", "\r", "\r\r\n", "\x00", "GET / HTTP/1.1", strings.Repeat("x", 9), "\xff", "é", "\t", "\n\r"}
	var l []string
	for range n {
		var b strings.Builder
		for range r.Intn(20) {
			b.WriteString(pieces[r.Intn(len(pieces))])
		}
		l = append(l, b.String())
		noise := make([]byte, r.Intn(30))
		for i := range noise {
			noise[i] = "\r\n\r\n\x00ab\xff"[r.Intn(8)]
		}
		l = append(l, string(noise))
	}
	return l
}

// limits are the limits with which samples are taken.
var limits = []int{1, 2, 3, 4, 5, 7, 9, 14, 20, 100, greatest}

// isNew returns whether a result has memory of its own.
func isNew(result, argument string) bool {
	from := uintptr(unsafe.Pointer(unsafe.StringData(argument)))
	at := uintptr(unsafe.Pointer(unsafe.StringData(result)))
	return result == "" || at < from || at >= from+uintptr(len(argument))
}

// P7.1

func TestNew(t *testing.T) {
	for limit, want := range map[int]api.Errno{
		0:                api.ErrRange,
		-1:               api.ErrRange,
		math.MinInt:      api.ErrRange,
		1:                api.OK,
		2:                api.OK,
		512:              api.OK,
		1024:             api.OK,
		1535:             api.OK,
		1536:             api.OK,
		1537:             api.ErrRange,
		math.MaxInt:      api.ErrRange,
		math.MaxInt - 1:  api.ErrRange,
		math.MaxInt32:    api.ErrRange,
		math.MinInt + 10: api.ErrRange,
	} {
		l, e := line.New(limit)
		if e != want || e == api.OK && l != (api.Lines{Limit: limit}) || e != api.OK && l != (api.Lines{}) {
			t.Errorf("%d: %#v %v", limit, l, e)
		}
	}
	if api.MaxTarget+api.MaxLine != greatest {
		t.Error("the greatest limit is another one")
	}
}

// wrong are splitters with their errors, more than one error in many of them: the first one counts.
func wrong() map[api.Lines]api.Errno {
	tall := strings.Repeat("a", greatest+1)
	return map[api.Lines]api.Errno{
		{}:                                          api.ErrRange,
		{Long: true}:                                api.ErrRange,
		{Limit: -1}:                                 api.ErrRange,
		{Limit: math.MinInt, Text: "a"}:             api.ErrRange,
		{Limit: math.MaxInt}:                        api.ErrRange,
		{Limit: 1537}:                               api.ErrRange,
		{Limit: 1537, Text: tall + "\n"}:            api.ErrRange,
		{Limit: 1537, Text: "\n", Long: true}:       api.ErrRange,
		{Limit: 0, Text: "a\n", Long: true}:         api.ErrRange,
		{Limit: 4, Text: "abcde"}:                   api.ErrLong,
		{Limit: 4, Text: "abcd\n"}:                  api.ErrLong,
		{Limit: 4, Text: "abcde", Long: true}:       api.ErrLong,
		{Limit: 1, Text: "\n\n"}:                    api.ErrLong,
		{Limit: greatest, Text: tall}:               api.ErrLong,
		{Limit: 4, Text: "abc\n"}:                   api.ErrForm,
		{Limit: 4, Text: "\nabc"}:                   api.ErrForm,
		{Limit: 4, Text: "a\r\nb"}:                  api.ErrForm,
		{Limit: 1, Text: "\n"}:                      api.ErrForm,
		{Limit: 4, Text: "a", Long: true}:           api.ErrForm,
		{Limit: 4, Text: "abcd", Long: true}:        api.ErrForm,
		{Limit: 4, Text: "\n", Long: true}:          api.ErrForm,
		{Limit: greatest, Text: "\x00\n"}:           api.ErrForm,
		{Limit: greatest, Text: "\r", Long: true}:   api.ErrForm,
		{Limit: greatest, Text: tall[2:] + "\n"}:    api.ErrForm,
		{Limit: greatest, Text: "\x00", Long: true}: api.ErrForm,
	}
}

// right are splitters without an error.
func right() []api.Lines {
	return []api.Lines{
		{Limit: 1},
		{Limit: greatest},
		{Limit: 1, Text: "a"},
		{Limit: 1, Text: "\r"},
		{Limit: 1, Long: true},
		{Limit: 4, Text: "abcd"},
		{Limit: 4, Text: "\x00\r\xff "},
		{Limit: 4, Text: "\r\r\r\r"},
		{Limit: 4, Long: true},
		{Limit: greatest, Long: true},
		{Limit: greatest, Text: strings.Repeat("a", greatest)},
	}
}

func TestCheck(t *testing.T) {
	for l, want := range wrong() {
		if e := line.Check(l); e != want {
			t.Errorf("%.60q, limit %d, %v: %v", l.Text, l.Limit, l.Long, e)
		}
	}
	for _, l := range right() {
		if e := line.Check(l); e != api.OK {
			t.Errorf("%.60q, limit %d, %v: %v", l.Text, l.Limit, l.Long, e)
		}
	}
}

// The error of the splitter comes before all else, whatever the chunk is.
func TestErrorsOfSplittersComeFirst(t *testing.T) {
	for l, want := range wrong() {
		for _, chunk := range []string{"", "a", "\n", "\r\n", "ab\r\ncd\r\n", "abcdef"} {
			if next, lines, e := line.Feed(l, chunk); next != (api.Lines{}) || len(lines) != 0 || e != want {
				t.Errorf("%.60q takes %q: %#v %v %v", l.Text, chunk, next, lines, e)
			}
			if got := one(l, chunk); got != (single{e: want}) {
				t.Errorf("%.60q takes one of %q: %#v", l.Text, chunk, got)
			}
		}
		if text, e := line.Rest(l); text != "" || e != want {
			t.Errorf("%.60q: %q %v", l.Text, text, e)
		}
	}
}

// P7.1 to P7.4

func TestShortTexts(t *testing.T) {
	chunks := shortTexts("a\r\n\x00", 5)
	for _, text := range shortTexts("a\r\x00\n", 3) {
		for limit := 0; limit <= 4; limit++ {
			for _, chunk := range chunks {
				check(t, api.Lines{Limit: limit, Text: text}, chunk)
			}
			for _, chunk := range chunks[:20] {
				check(t, api.Lines{Limit: limit, Text: text, Long: true}, chunk)
			}
		}
	}
	for _, s := range shortTexts("a\r\n", 8) {
		for limit := -1; limit <= 5; limit++ {
			checkSplit(t, s, limit)
		}
	}
}

// Only CR, LF and NUL are other bytes than the rest.
func TestEveryByte(t *testing.T) {
	for b := range 256 {
		s := string([]byte{byte(b)})
		for _, chunk := range []string{s, s + "\r\n", "a" + s + "b\r\n", s + "\n", "ab\r" + s, "ab\r\n" + s, s + "ab\r\nc" + s + "\n", s + s + s + s, s + s + s + s + s} {
			check(t, four(""), chunk)
			check(t, four("x"), chunk)
			check(t, four("x\r"), chunk)
			check(t, api.Lines{Limit: greatest, Text: s}, chunk)
			check(t, four(s), chunk)
			checkSplit(t, chunk, 4)
			checkSplit(t, chunk, 100)
		}
		plain := b != '\r' && b != '\n' && b != 0
		if got := one(four(""), s+"\r\n"); b != '\n' && got.line != (api.Line{Text: s, Good: plain}) {
			t.Errorf("%d: %#v", b, got)
		}
		text, e := line.Join([]api.Line{good("a" + s)})
		if plain && (text != "a"+s+"\r\n" || e != api.OK) || !plain && (text != "" || e != api.ErrForm) {
			t.Errorf("%d: %q %v", b, text, e)
		}
	}
}

func TestSamples(t *testing.T) {
	r := rand.New(rand.NewSource(2))
	for _, s := range samples(3000) {
		for _, limit := range limits {
			checkSplit(t, s, limit)
			check(t, api.Lines{Limit: limit}, s)
			cut := r.Intn(len(s) + 1)
			check(t, api.Lines{Limit: limit, Text: s[:cut], Long: r.Intn(10) == 0}, s[cut:])
		}
	}
}

// P7.2

func TestFeed(t *testing.T) {
	for i, c := range []struct {
		l     api.Lines
		chunk string
		next  api.Lines
		lines []api.Line
	}{
		{four(""), "", four(""), nil},
		{four("ab"), "", four("ab"), nil},
		{four("abcd"), "", four("abcd"), nil},
		{four(""), "ab\r\nc", four("c"), []api.Line{good("ab")}},
		{four("c"), "\n", four(""), []api.Line{bad("c")}},
		{four("c"), "\r\n", four(""), []api.Line{good("c")}},
		{four("c\r"), "\n", four(""), []api.Line{good("c")}},
		{four("c\r"), "x\n", four(""), []api.Line{bad("c\rx")}},
		{four("c"), "d\r\ne\n\r\nf", four("f"), []api.Line{good("cd"), bad("e"), good("")}},
		{four(""), "abc\r\n", four(""), []api.Line{good("abc")}},
		{four(""), "abcd\n", four(""), []api.Line{bad("abcd")}},
		{four(""), "abcd", four("abcd"), nil},
		{four(""), "abc\r", four("abc\r"), nil},
		{four(""), "abcd\r\n", longOf(4), nil},
		{four(""), "abcd\r", longOf(4), nil},
		{four(""), "abcde", longOf(4), nil},
		{four("abcd"), "\n", four(""), []api.Line{bad("abcd")}},
		{four("abcd"), "\r", longOf(4), nil},
		{four("abcd"), "x", longOf(4), nil},
		{four("abcd"), "x\nab\n", longOf(4), nil},
		{four("ab"), "cd\r\n", longOf(4), nil},
		{four("ab"), "c\r\n", four(""), []api.Line{good("abc")}},
		{four(""), "a\nabcde\nb\n", longOf(4), []api.Line{bad("a")}},
		{four(""), "a\r\nb\r\nabcde", longOf(4), []api.Line{good("a"), good("b")}},
		{four(""), "a\rb\n", four(""), []api.Line{bad("a\rb")}},
		{four(""), "a\rb\r\n", four(""), []api.Line{bad("a\rb")}},
		{four(""), "ab\r\r\n", four(""), []api.Line{bad("ab\r")}},
		{four(""), "\r\n", four(""), []api.Line{good("")}},
		{four(""), "\n", four(""), []api.Line{bad("")}},
		{four(""), "\n\n", four(""), []api.Line{bad(""), bad("")}},
		{four(""), "\n\r", four("\r"), []api.Line{bad("")}},
		{four("\r"), "\n", four(""), []api.Line{good("")}},
		{four(""), "a\x00\r\n", four(""), []api.Line{bad("a\x00")}},
		{four("\x00"), "\r\n", four(""), []api.Line{bad("\x00")}},
		{four(""), "\x00", four("\x00"), nil},
		{four(""), "\xff\t\r\n", four(""), []api.Line{good("\xff\t")}},
		{four(""), "\u010a\n", four(""), []api.Line{bad("\u010a")}},
		{api.Lines{Limit: 1}, "\r\n\r\n\n", api.Lines{Limit: 1}, []api.Line{good(""), good(""), bad("")}},
		{api.Lines{Limit: 1}, "a\r\n", longOf(1), nil},
		{api.Lines{Limit: 1}, "a\n", api.Lines{Limit: 1}, []api.Line{bad("a")}},
	} {
		next, lines, e := line.Feed(c.l, c.chunk)
		if next != c.next || !slices.Equal(lines, c.lines) || e != api.OK {
			t.Errorf("%d: %#v %#v %v", i, next, lines, e)
		}
		check(t, c.l, c.chunk)
	}
}

// A splitter with Long takes nothing any more, not even an empty chunk.
func TestLongTakesNothing(t *testing.T) {
	for _, limit := range limits {
		for _, chunk := range []string{"", "a", "\n", "\r\n", "a\r\nb\r\n", strings.Repeat("a", 10000)} {
			if next, lines, e := line.Feed(longOf(limit), chunk); next != (api.Lines{}) || len(lines) != 0 || e != api.ErrState {
				t.Errorf("%q: %#v %v %v", chunk, next, lines, e)
			}
			if got := one(longOf(limit), chunk); got != (single{e: api.ErrState}) {
				t.Errorf("%q: %#v", chunk, got)
			}
		}
		if text, e := line.Rest(longOf(limit)); text != "" || e != api.OK {
			t.Errorf("%q %v", text, e)
		}
	}
}

// Lines about as long as the limit, ended or not, with and without CR.
func TestLimits(t *testing.T) {
	for _, limit := range append(limits, 511, 512, 513, 1024, 1535) {
		for more := -3; more <= 3; more++ {
			text := strings.Repeat("a", max(limit+more, 0))
			for _, chunk := range []string{text, text + "\n", text + "\r\n", text + "\r", "b\n" + text + "\nc", text + "\n" + text + "\r\nd", text + "\r\r\n"} {
				check(t, api.Lines{Limit: limit}, chunk)
				checkSplit(t, chunk, limit)
				for _, cut := range []int{1, limit - 1, limit, limit + 1} {
					if cut <= len(chunk) {
						check(t, api.Lines{Limit: limit, Text: chunk[:cut]}, chunk[cut:])
					}
				}
			}
		}
	}
}

func TestLongChunks(t *testing.T) {
	for _, s := range []string{"a", "\r", "\n", "\r\n", "\x00", "a\r\n", "ab\r\nc\n", "\xff\n"} {
		chunk := strings.Repeat(s, 100000/len(s))
		for _, limit := range []int{1, 4, greatest} {
			check(t, api.Lines{Limit: limit}, chunk)
			check(t, api.Lines{Limit: limit, Text: "x"}, chunk)
			checkSplit(t, chunk, limit)
		}
	}
}

func TestFeedIsNew(t *testing.T) {
	begun, chunk := strings.Clone("begun"), "ab\r\ncd\nef"
	l := api.Lines{Limit: 10, Text: begun}
	next, lines, _ := line.Feed(l, chunk)
	if l != (api.Lines{Limit: 10, Text: "begun"}) || !isNew(next.Text, chunk) {
		t.Error(next)
	}
	for _, x := range lines {
		if x.Text == "" || !isNew(x.Text, chunk) || !isNew(x.Text, begun) {
			t.Error(x)
		}
	}
	for _, chunk := range []string{"", "\n", "\r\n", "x"} {
		next, lines, _ := line.Feed(l, chunk)
		if !isNew(next.Text, begun) || len(lines) > 0 && !isNew(lines[0].Text, begun) {
			t.Errorf("%q: %v %v", chunk, next, lines)
		}
	}
	_, lines, _ = line.Feed(l, chunk)
	lines[0] = bad("other")
	if _, again, _ := line.Feed(l, chunk); !slices.Equal(again, []api.Line{good("begunab"), bad("cd")}) {
		t.Error(again)
	}
}

// P7.3

func TestOne(t *testing.T) {
	for i, c := range []struct {
		l     api.Lines
		chunk string
		want  single
	}{
		{four(""), "ab\r\nc\r\n", single{four(""), good("ab"), "c\r\n", true, api.OK}},
		{four("a"), "b\r\nc\r\n", single{four(""), good("ab"), "c\r\n", true, api.OK}},
		{four("a"), "b\nabcdefgh", single{four(""), bad("ab"), "abcdefgh", true, api.OK}},
		{four("a"), "\n\n\n", single{four(""), bad("a"), "\n\n", true, api.OK}},
		{four("a\r"), "\n", single{four(""), good("a"), "", true, api.OK}},
		{four(""), "\r\n", single{four(""), good(""), "", true, api.OK}},
		{four(""), "\n", single{four(""), bad(""), "", true, api.OK}},
		{four("abcd"), "\nx", single{four(""), bad("abcd"), "x", true, api.OK}},
		{four(""), "a\x00\r\n\x00", single{four(""), bad("a\x00"), "\x00", true, api.OK}},
		{four("a"), "b", single{next: four("ab")}},
		{four("a"), "", single{next: four("a")}},
		{four(""), "", single{next: four("")}},
		{four("a"), "bcd", single{next: four("abcd")}},
		{four("a"), "bcde", single{next: longOf(4)}},
		{four("a"), "bcdef\n", single{next: longOf(4)}},
		{four("a"), "bcd\r\nx\n", single{next: longOf(4)}},
		{longOf(4), "a\n", single{e: api.ErrState}},
		{four("a\n"), "b\n", single{e: api.ErrForm}},
	} {
		if got := one(c.l, c.chunk); got != c.want {
			t.Errorf("%d: %#v", i, got)
		}
		check(t, c.l, c.chunk)
	}
}

func TestOneIsNew(t *testing.T) {
	begun, chunk := strings.Clone("begun"), strings.Repeat("ab\r\n", 5)
	l := api.Lines{Limit: 10, Text: begun}
	got := one(l, chunk)
	if got.rest == "" || !isNew(got.rest, chunk) || !isNew(got.line.Text, chunk) || !isNew(got.line.Text, begun) {
		t.Errorf("%#v", got)
	}
	for _, chunk := range []string{"", "x", "\n"} {
		if got := one(l, chunk); !isNew(got.next.Text, begun) || !isNew(got.line.Text, begun) {
			t.Errorf("%q: %#v", chunk, got)
		}
	}
}

// P7.4

func TestRest(t *testing.T) {
	for _, l := range right() {
		text, e := line.Rest(l)
		if text != l.Text || e != api.OK || !isNew(text, l.Text) {
			t.Errorf("%.40q: %.40q %v", l.Text, text, e)
		}
	}
}

func TestSplit(t *testing.T) {
	for i, c := range []struct {
		s     string
		limit int
		lines []api.Line
		rest  string
		e     api.Errno
	}{
		{"", 4, nil, "", api.OK},
		{"cd", 4, nil, "cd", api.OK},
		{"abcd", 4, nil, "abcd", api.OK},
		{"ab\r\ncd", 4, []api.Line{good("ab")}, "cd", api.OK},
		{"ab\r\ncd\n", 4, []api.Line{good("ab"), bad("cd")}, "", api.OK},
		{"abcde", 4, nil, "", api.ErrLong},
		{"a\nabcde", 4, nil, "", api.ErrLong},
		{"a\nabcde\nb\n", 4, nil, "", api.ErrLong},
		{"abcd\r\n", 4, nil, "", api.ErrLong},
		{"\r", 1, nil, "\r", api.OK},
		{"\r\n", 1, []api.Line{good("")}, "", api.OK},
		{"\r\r", 1, nil, "", api.ErrLong},
		{"a", 0, nil, "", api.ErrRange},
		{"", 0, nil, "", api.ErrRange},
		{"abcde", 0, nil, "", api.ErrRange},
		{"a\n", -1, nil, "", api.ErrRange},
		{"a\n", 1537, nil, "", api.ErrRange},
		{strings.Repeat("a", 2000), 1537, nil, "", api.ErrRange},
		{"a\n", math.MinInt, nil, "", api.ErrRange},
		{"a\n", math.MaxInt, nil, "", api.ErrRange},
		{strings.Repeat("a", 1536), 1536, nil, strings.Repeat("a", 1536), api.OK},
		{strings.Repeat("a", 1537), 1536, nil, "", api.ErrLong},
		{strings.Repeat("a", 1535) + "\r\n", 1536, []api.Line{good(strings.Repeat("a", 1535))}, "", api.OK},
		{strings.Repeat("a", 1536) + "\r\n", 1536, nil, "", api.ErrLong},
	} {
		lines, rest, e := line.Split(c.s, c.limit)
		if !slices.Equal(lines, c.lines) || rest != c.rest || e != c.e {
			t.Errorf("%d: %#v %.40q %v", i, few(lines), rest, e)
		}
		if !isNew(rest, c.s) || len(lines) > 0 && !isNew(lines[0].Text, c.s) {
			t.Errorf("%d: a part of the text", i)
		}
	}
}

func TestJoin(t *testing.T) {
	for i, c := range []struct {
		l    []api.Line
		want string
		e    api.Errno
	}{
		{nil, "", api.OK},
		{[]api.Line{}, "", api.OK},
		{[]api.Line{good("")}, "\r\n", api.OK},
		{[]api.Line{good("ab")}, "ab\r\n", api.OK},
		{[]api.Line{good("ab"), good("")}, "ab\r\n\r\n", api.OK},
		{[]api.Line{good("b"), good("a"), good("b")}, "b\r\na\r\nb\r\n", api.OK},
		{[]api.Line{good("\x01\t\x7f\xff é")}, "\x01\t\x7f\xff é\r\n", api.OK},
		{[]api.Line{good(strings.Repeat("a", 5000))}, strings.Repeat("a", 5000) + "\r\n", api.OK},
		{[]api.Line{bad("ab")}, "", api.ErrForm},
		{[]api.Line{bad("")}, "", api.ErrForm},
		{[]api.Line{{}}, "", api.ErrForm},
		{[]api.Line{good("a"), bad("b")}, "", api.ErrForm},
		{[]api.Line{bad("a"), good("b")}, "", api.ErrForm},
		{[]api.Line{good("a"), good("a\r")}, "", api.ErrForm},
		{[]api.Line{good("\ra")}, "", api.ErrForm},
		{[]api.Line{good("a\nb")}, "", api.ErrForm},
		{[]api.Line{good("\n")}, "", api.ErrForm},
		{[]api.Line{good("\r\n")}, "", api.ErrForm},
		{[]api.Line{good("\x00")}, "", api.ErrForm},
		{[]api.Line{good("abcdefghijkl\x00mn"), good("b")}, "", api.ErrForm},
		{[]api.Line{good("\xff\xfe\r\xff")}, "", api.ErrForm},
		{[]api.Line{bad("a\x00")}, "", api.ErrForm},
	} {
		given := slices.Clone(c.l)
		if s, e := line.Join(c.l); s != c.want || e != c.e {
			t.Errorf("%d: %.40q %v", i, s, e)
		}
		if !slices.Equal(given, c.l) {
			t.Errorf("%d: the argument is changed", i)
		}
	}
}

// P7.5

// feedAll feeds chunks, one after the other, until one of them makes a line too long.
func feedAll(t *testing.T, l api.Lines, chunks []string) (api.Lines, []api.Line) {
	t.Helper()
	var lines []api.Line
	for _, chunk := range chunks {
		if l.Long {
			break
		}
		next, some, e := line.Feed(l, chunk)
		if e != api.OK {
			t.Fatalf("%#v takes %q: %v", l, chunk, e)
		}
		l, lines = next, append(lines, some...)
	}
	return l, lines
}

// checkChunks checks that chunks make the same as all of them in one.
func checkChunks(t *testing.T, l api.Lines, chunks []string) {
	t.Helper()
	whole, all, e := line.Feed(l, strings.Join(chunks, ""))
	if e != api.OK {
		t.Fatal(e)
	}
	if end, lines := feedAll(t, l, chunks); end != whole || !slices.Equal(lines, all) {
		t.Fatalf("%#v takes %.20q: %#v %#v, not %#v %#v", l, chunks, end, few(lines), whole, few(all))
	}
}

// everywhere has a bit for each byte behind which a text may be divided.
const everywhere = -1

// divide divides s behind each byte whose bit is 1. Behind 63 bytes, the bits begin again.
func divide(s string, where int) []string {
	var chunks []string
	from := 0
	for i := range len(s) {
		if where>>(i%63)&1 == 1 {
			chunks = append(chunks, s[from:i+1])
			from = i + 1
		}
	}
	return append(chunks, s[from:])
}

func TestEveryDivision(t *testing.T) {
	for _, s := range shortTexts("a\r\n", 6) {
		for limit := 1; limit <= 4; limit++ {
			for where := range 1 << len(s) {
				checkChunks(t, api.Lines{Limit: limit}, divide(s, where))
			}
		}
	}
}

func TestDivisions(t *testing.T) {
	r := rand.New(rand.NewSource(5))
	for _, s := range samples(1000) {
		for _, limit := range limits {
			l := api.Lines{Limit: limit}
			checkChunks(t, l, divide(s, everywhere))
			checkChunks(t, l, divide(s, r.Int()))
		}
	}
	text := strings.Repeat(strings.Repeat("a", 700)+"\r\n", 20)
	for _, limit := range []int{699, 700, 701, 702, greatest} {
		for _, size := range []int{1, 2, 3, 699, 700, 701, 702, 703, 5000} {
			var chunks []string
			for from := 0; from < len(text); from += size {
				chunks = append(chunks, text[from:min(from+size, len(text))], "")
			}
			checkChunks(t, api.Lines{Limit: limit}, chunks)
		}
	}
}

// P7.6

func TestOneAgainAndAgain(t *testing.T) {
	for _, s := range append(samples(1000), shortTexts("a\r\n\x00", 6)...) {
		for _, limit := range []int{1, 2, 4, 9, greatest} {
			for _, text := range []string{"", "a", "\r"} {
				start := api.Lines{Limit: limit, Text: text}
				whole, all, e := line.Feed(start, s)
				if e != api.OK {
					t.Fatal(e)
				}
				var lines []api.Line
				got := single{next: start, rest: s, is: true}
				for got.is && got.e == api.OK {
					if got = one(got.next, got.rest); got.is {
						lines = append(lines, got.line)
					}
				}
				if got != (single{next: whole}) || !slices.Equal(lines, all) {
					t.Fatalf("%#v takes %q: %#v %#v, not %#v %#v", start, s, got, few(lines), whole, few(all))
				}
			}
		}
	}
}

// P7.7

func TestSplitOfJoin(t *testing.T) {
	r := rand.New(rand.NewSource(7))
	for range 5000 {
		var l []api.Line
		longest := 0
		for range r.Intn(10) {
			text := make([]byte, r.Intn(30))
			for i := range text {
				text[i] = " \t\x01\x0b\x0cab:\x7f\x80\xff"[r.Intn(11)]
			}
			l = append(l, good(string(text)))
			longest = max(longest, len(text))
		}
		s, e := line.Join(l)
		if e != api.OK {
			t.Fatalf("%#v: %v", l, e)
		}
		for _, limit := range []int{longest + 1, longest + 2, greatest} {
			if lines, rest, e := line.Split(s, limit); !slices.Equal(lines, l) || rest != "" || e != api.OK {
				t.Fatalf("%#v, limit %d: %#v %q %v", l, limit, lines, rest, e)
			}
		}
		// The CR counts, so that the longest text alone is not enough.
		if _, _, e := line.Split(s, max(longest, 1)); longest > 0 && e != api.ErrLong {
			t.Fatalf("%#v, limit %d: %v", l, longest, e)
		}
	}
}

// P7.8

// behind returns what of s is behind the line, and how long the line is there: -1 if it does not stand there.
func behind(s string, x api.Line) (string, int) {
	rest, is := strings.CutPrefix(s, x.Text)
	if !is {
		return "", -1
	}
	if after, ended := strings.CutPrefix(rest, "\r\n"); ended {
		return after, len(x.Text) + 1
	}
	if after, ended := strings.CutPrefix(rest, "\n"); ended && !x.Good {
		return after, len(x.Text)
	}
	return "", -1
}

func TestAllBytesAreThere(t *testing.T) {
	for _, s := range append(samples(2000), shortTexts("a\r\n", 8)...) {
		for _, limit := range limits {
			next, lines, e := line.Feed(api.Lines{Limit: limit}, s)
			if e != api.OK {
				t.Fatal(e)
			}
			left := s
			for _, x := range lines {
				var length int
				if left, length = behind(left, x); length < 0 || length > limit {
					t.Fatalf("%q, limit %d: %#v", s, limit, lines)
				}
			}
			if !next.Long && next.Text != left || next.Long && len(strings.Split(left, "\n")[0]) <= limit || len(next.Text) > limit {
				t.Fatalf("%q, limit %d: %q are left, %#v", s, limit, left, next)
			}
			if line.Check(next) != api.OK {
				t.Fatalf("%q, limit %d: %#v", s, limit, next)
			}
		}
	}
}
