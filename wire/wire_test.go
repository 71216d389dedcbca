package wire_test

import (
	"math"
	"math/rand"
	"slices"
	"strconv"
	"strings"
	"testing"
	"unsafe"

	"waypost/api"
	"waypost/chunked"
	"waypost/wire"
)

var (
	slash   = api.ReqLine{Method: "GET", Target: "/"}
	five    = []api.Field{{Name: "Content-Length", Value: "5"}}
	inParts = []api.Field{{Name: "Transfer-Encoding", Value: "chunked"}}
)

// many are n fields.
func many(n int) []api.Field { return slices.Repeat([]api.Field{{Name: "a", Value: "b"}}, n) }

// starts are texts behind which parsers are in all places, with all that they may have there.
func starts() []string {
	head32 := get + strings.Repeat("a: b\r\n", 32)
	return []string{
		"", "G", "GET", "GET ", "GET /", "GET /a", "GET /a ", "GET / HTTP/1.1", "GET / HTTP/1.1\r", "GET / HTTP/1.1\r\r", "\r", "\r\r", " ", "  ", "GET \r", "GET  \r",
		strings.Repeat("M", 15), strings.Repeat("M", 16), strings.Repeat("M", 16) + "\r", "GET /" + text(1022), "GET /" + text(1023), "GET /" + text(1023) + "\r", "GET /" + text(1023) + " ", "GET / " + text(511), "GET / " + text(512), "GET / " + text(512) + "\r",
		get, get + "\r", get + "\r\r", get + "a", get + "a:", get + "a:\r", get + "a: b\r", get + " ", get + "a: b\r\n", get + "a: b\r\n\r", get + "a: b\r\nc", get + "a:b\r\nc:\r\n d\r",
		get + text(511), get + text(512), get + text(512) + "\r", get + text(511) + "\r", get + "a:" + text(510), get + "a:" + text(510) + "\r", get + "a:" + text(509) + "\r", get + "a: " + text(509) + "\r", get + text(511) + ":\r", get + text(510) + ":x\r",
		get + strings.Repeat("a:\r\n", 31), get + strings.Repeat("a:\r\n", 31) + "\r", get + strings.Repeat("a:\r\n", 31) + "a:\r", head32, head32 + "\r",
		get + "Content-Length: 1\r\n\r", get + "Content-Length: 0\r\n\r", get + "Content-Length: 2049\r\n\r", get + "Content-Length: x\r\n\r", get + "Transfer-Encoding: chunked\r\n\r", get + "Transfer-Encoding: gzip\r\n\r", get + "Content-Length: 1\r\nTransfer-Encoding: chunked\r\n\r",
		byLength, byLength + "a", byLength + "abc\r", byLength + "abcd", "POST / HTTP/1.1\r\nContent-Length: 2048\r\n\r\n", "POST / HTTP/1.1\r\nContent-Length: 2048\r\n\r\n" + text(2047), "POST / HTTP/1.1\r\nContent-Length: 1, 1\r\ncontent-length: 001\r\n\r\n",
		byChunks, byChunks + "5", byChunks + "5\r", byChunks + "801\r", byChunks + "5\r\n", byChunks + "5\r\nabcd", byChunks + "5\r\nabcde", byChunks + "5\r\nabcde\r", byChunks + "5\r\nabcde\r\n", byChunks + "0\r\n", byChunks + "0\r\na", byChunks + "0\r\na:\r", byChunks + "0\r\na:\r\n\r", byChunks + "1\r\nx\r\n0\r\n\r", byChunks + "0\r\n" + strings.Repeat("a:\r\n", 32), byChunks + "0\r\n" + text(512), byChunks + "12345678",
		"\n", get + "\n", byChunks + "x", get + "\r\n" + get, get + "\r\n" + byLength + "abcde", get + "\r\n" + byChunks + "0\r\n\r\nGE",
	}
}

// valid are the parsers behind these texts. The model makes them, so that they do not depend on the package.
func valid() []api.Wire {
	var l []api.Wire
	for _, s := range starts() {
		w, _ := feedOf(s)
		l = append(l, w)
	}
	return l
}

func TestConstants(t *testing.T) {
	places := []int{api.AtLine, api.AtFields, api.AtBody, api.AtChunks, api.AtEnd}
	events := []int{api.GotLine, api.GotHead, api.GotRequest, api.Wrong}
	if !slices.Equal(places, []int{1, 2, 3, 4, 5}) || !slices.Equal(events, []int{1, 2, 3, 4}) {
		t.Error("the constants of places or events are others")
	}
	if api.MaxMethod != mostMethod || api.MaxTarget != mostTarget || api.MaxLine != mostLine || api.MaxFields != mostFields || api.MaxBody != mostBody || api.MaxText != mostText {
		t.Error("the limits are others")
	}
}

// The chapter's examples.
func TestExamples(t *testing.T) {
	abc := []api.Field{{Name: "Content-Length", Value: "3"}}
	post := api.ReqLine{Method: "POST", Target: "/"}
	postX := api.ReqLine{Method: "POST", Target: "/x"}
	hostA := []api.Field{{Name: "Host", Value: "a"}}
	wrong := func(status int) []api.WireEvent { return []api.WireEvent{{Kind: 4, Status: status}} }
	wrongField := func(status int) []api.WireEvent {
		return []api.WireEvent{{Kind: 1, Line: slash}, {Kind: 4, Line: slash, Status: status}}
	}
	wrongHead := func(value string, status int) []api.WireEvent {
		fields := []api.Field{{Name: "Content-Length", Value: value}}
		return []api.WireEvent{{Kind: 1, Line: post}, {Kind: 2, Line: post, Fields: fields}, {Kind: 4, Line: post, Fields: fields, Status: status}}
	}
	for i, c := range []struct {
		s    string
		want []api.WireEvent
	}{
		{get + "Host: a||", request{slash, hostA, "", ""}.events()},
		{"POST /x HTTP/1.1|Content-Length: 3||abc" + get, append(request{postX, abc, "abc", ""}.events(), api.WireEvent{Kind: 1, Line: slash})},
		{"POST / HTTP/1.1|Content-Length: 2049||", wrongHead("2049", 413)},
		{"POST / HTTP/1.1|Content-Length: x||", wrongHead("x", 400)},
		{"GET / HTTP/1.0|", wrong(400)},
		{"GET / HTTP/1.1\n", wrong(400)},
		{"|", wrong(400)},
		{get + " |", wrongField(400)},
		{get + "a: b\n", wrongField(400)},
		{"GET /" + text(1024), wrong(414)},
		{"GET /" + text(1023), nil},
		{"ABCDEFGHIJKLMNOPQ", wrong(400)},
		{"ABCDEFGHIJKLMNOP", nil},
		{get + "a:" + text(511), wrongField(431)},
		{get + "a:" + text(510), wrongField(0)[:1]},
		{get + strings.Repeat("a: b|", 32) + "x", wrongField(431)},
		{get + strings.Repeat("a: b|", 32), wrongField(0)[:1]},
		{"POST / HTTP/1.1|Transfer-Encoding: chunked||2|ab|0||", request{post, inParts, "ab", ""}.events()},
	} {
		s := crlf(c.s)
		if l, e := wire.All(s); !sameEvents(l, c.want) || e != api.OK {
			t.Errorf("%d: %s %v, not %s", i, shorts(l), e, shorts(c.want))
		}
		checkFeed(t, s)
	}
}

// P11.1

func TestNew(t *testing.T) {
	if w := wire.New(); !same(w, api.Wire{At: 1}) || wire.Check(w) != api.OK {
		t.Error(short(w))
	}
}

func TestCheck(t *testing.T) {
	for i, w := range valid() {
		if e := wire.Check(w); e != api.OK || checkOf(w) != api.OK {
			t.Errorf("%d: %s: %v, %v", i, short(w), e, checkOf(w))
		}
	}
	badLine := api.ReqLine{Method: "GET", Target: "a"}
	longName := api.Field{Name: text(511), Value: "b"}
	longest := api.Field{Name: text(511)}
	data := api.Chunks{State: api.DataBytes, Left: 1, Body: "b"}
	for _, c := range []struct {
		w    api.Wire
		want api.Errno
	}{
		{api.Wire{}, api.ErrState},
		{api.Wire{At: -1}, api.ErrState},
		{api.Wire{At: 6}, api.ErrState},
		{api.Wire{At: 257}, api.ErrState},
		{api.Wire{At: math.MinInt}, api.ErrState},
		{api.Wire{At: math.MaxInt}, api.ErrState},
		{api.Wire{Text: "\n", Left: -1}, api.ErrState},
		{api.Wire{At: 1}, api.OK},
		{api.Wire{At: 1, Fields: []api.Field{}}, api.OK},
		{api.Wire{At: 1, Text: "\x00\xff  #\r\r"}, api.OK},
		{api.Wire{At: 1, Text: "\n"}, api.ErrForm},
		{api.Wire{At: 1, Text: "GET / HTTP/1.1\r\n"}, api.ErrForm},
		{api.Wire{At: 1, Text: strings.Repeat("M", 17)}, api.ErrForm},
		{api.Wire{At: 1, Text: strings.Repeat("M", 16) + "\r"}, api.OK},
		{api.Wire{At: 1, Text: strings.Repeat("M", 16) + "\r\r"}, api.ErrForm},
		{api.Wire{At: 1, Text: "GET /" + text(1023)}, api.OK},
		{api.Wire{At: 1, Text: "GET /" + text(1023) + "\r"}, api.OK},
		{api.Wire{At: 1, Text: "GET /" + text(1024)}, api.ErrForm},
		{api.Wire{At: 1, Text: "GET / " + text(512)}, api.OK},
		{api.Wire{At: 1, Text: "GET / " + text(513)}, api.ErrForm},
		{api.Wire{At: 1, Line: slash}, api.ErrForm},
		{api.Wire{At: 1, Line: api.ReqLine{Method: "G"}}, api.ErrForm},
		{api.Wire{At: 1, Line: api.ReqLine{Target: "/"}}, api.ErrForm},
		{api.Wire{At: 1, Fields: five}, api.ErrForm},
		{api.Wire{At: 1, Fields: make([]api.Field, 1)}, api.ErrForm},
		{api.Wire{At: 1, Body: "b"}, api.ErrForm},
		{api.Wire{At: 1, Left: 1}, api.ErrForm},
		{api.Wire{At: 1, Left: -1}, api.ErrForm},
		{api.Wire{At: 1, Chunks: data}, api.ErrForm},
		{api.Wire{At: 1, Chunks: api.Chunks{State: api.TrailerBytes}}, api.ErrForm},
		{api.Wire{At: 1, Chunks: api.Chunks{Status: 400}}, api.ErrForm},
		{api.Wire{At: 2}, api.ErrForm},
		{api.Wire{At: 2, Line: slash}, api.OK},
		{api.Wire{At: 2, Line: badLine}, api.ErrForm},
		{api.Wire{At: 2, Line: api.ReqLine{Method: "G T", Target: "/"}}, api.ErrForm},
		{api.Wire{At: 2, Line: api.ReqLine{Method: strings.Repeat("M", 17), Target: "/"}}, api.ErrForm},
		{api.Wire{At: 2, Line: api.ReqLine{Method: strings.Repeat("M", 16), Target: "/" + text(1023)}}, api.OK},
		{api.Wire{At: 2, Line: api.ReqLine{Method: "GET", Target: "/" + text(1024)}}, api.ErrForm},
		{api.Wire{At: 2, Line: api.ReqLine{Method: "GET", Target: "/#"}}, api.ErrForm},
		{api.Wire{At: 2, Line: slash, Text: "a b\x00\r"}, api.OK},
		{api.Wire{At: 2, Line: slash, Text: "a\n"}, api.ErrForm},
		{api.Wire{At: 2, Line: slash, Text: "\r\n"}, api.ErrForm},
		{api.Wire{At: 2, Line: slash, Text: text(512)}, api.OK},
		{api.Wire{At: 2, Line: slash, Text: text(512) + "\r"}, api.OK},
		{api.Wire{At: 2, Line: slash, Text: text(513)}, api.ErrForm},
		{api.Wire{At: 2, Line: slash, Text: text(512) + "\r\r"}, api.ErrForm},
		{api.Wire{At: 2, Line: slash, Text: strings.Repeat("M", 17)}, api.OK},
		{api.Wire{At: 2, Line: slash, Fields: many(31), Text: "a"}, api.OK},
		{api.Wire{At: 2, Line: slash, Fields: many(32)}, api.OK},
		{api.Wire{At: 2, Line: slash, Fields: many(32), Text: "\r"}, api.OK},
		{api.Wire{At: 2, Line: slash, Fields: many(32), Text: "a"}, api.ErrForm},
		{api.Wire{At: 2, Line: slash, Fields: many(32), Text: "\r\r"}, api.ErrForm},
		{api.Wire{At: 2, Line: slash, Fields: many(32), Text: "a\r"}, api.ErrForm},
		{api.Wire{At: 2, Line: slash, Fields: many(32), Text: "\n"}, api.ErrForm},
		{api.Wire{At: 2, Line: slash, Fields: many(33)}, api.ErrForm},
		{api.Wire{At: 2, Line: slash, Fields: []api.Field{{Name: "a b"}}}, api.ErrForm},
		{api.Wire{At: 2, Line: slash, Fields: []api.Field{{Name: "a"}, {Name: "a", Value: " b"}}}, api.ErrForm},
		{api.Wire{At: 2, Line: slash, Fields: []api.Field{{Name: "a", Value: "b\r"}}}, api.ErrForm},
		{api.Wire{At: 2, Line: slash, Fields: []api.Field{longest}}, api.OK},
		{api.Wire{At: 2, Line: slash, Fields: []api.Field{longName}}, api.ErrForm},
		{api.Wire{At: 2, Line: slash, Fields: append(five, inParts...)}, api.OK},
		{api.Wire{At: 2, Line: slash, Body: "b"}, api.ErrForm},
		{api.Wire{At: 2, Line: slash, Fields: five, Left: 5}, api.ErrForm},
		{api.Wire{At: 2, Line: slash, Fields: inParts, Chunks: data}, api.ErrForm},
		{api.Wire{At: 3, Line: slash, Fields: five, Left: 5}, api.OK},
		{api.Wire{At: 3, Line: slash, Fields: five, Left: 1, Body: "\r\nab"}, api.OK},
		{api.Wire{At: 3, Line: slash, Fields: five, Body: "abcde"}, api.ErrForm},
		{api.Wire{At: 3, Line: slash, Fields: five, Left: 4}, api.ErrForm},
		{api.Wire{At: 3, Line: slash, Fields: five, Left: 6}, api.ErrForm},
		{api.Wire{At: 3, Line: slash, Fields: five, Left: 3, Body: "abc"}, api.ErrForm},
		{api.Wire{At: 3, Line: slash, Fields: five, Left: -1, Body: "abcdef"}, api.ErrForm},
		{api.Wire{At: 3, Line: slash, Fields: five, Left: math.MaxInt, Body: "abcdef"}, api.ErrForm},
		{api.Wire{At: 3, Line: slash, Fields: five, Left: math.MinInt}, api.ErrForm},
		{api.Wire{At: 3, Line: slash, Fields: five, Left: 5, Text: "a"}, api.ErrForm},
		{api.Wire{At: 3, Line: slash, Fields: five, Left: 5, Chunks: data}, api.ErrForm},
		{api.Wire{At: 3, Fields: five, Left: 5}, api.ErrForm},
		{api.Wire{At: 3, Line: badLine, Fields: five, Left: 5}, api.ErrForm},
		{api.Wire{At: 3, Line: slash, Left: 5}, api.ErrForm},
		{api.Wire{At: 3, Line: slash}, api.ErrForm},
		{api.Wire{At: 3, Line: slash, Fields: many(1), Left: 1}, api.ErrForm},
		{api.Wire{At: 3, Line: slash, Fields: inParts, Left: 1}, api.ErrForm},
		{api.Wire{At: 3, Line: slash, Fields: inParts}, api.ErrForm},
		{api.Wire{At: 3, Line: slash, Fields: append(five, inParts...), Left: 5}, api.ErrForm},
		{api.Wire{At: 3, Line: slash, Fields: []api.Field{{Name: "Content-Length", Value: "0"}}}, api.ErrForm},
		{api.Wire{At: 3, Line: slash, Fields: []api.Field{{Name: "Content-Length", Value: "2049"}}, Left: 2049}, api.ErrForm},
		{api.Wire{At: 3, Line: slash, Fields: []api.Field{{Name: "Content-Length", Value: "2048"}}, Left: 1, Body: text(2047)}, api.OK},
		{api.Wire{At: 3, Line: slash, Fields: append(many(31), five...), Left: 5}, api.OK},
		{api.Wire{At: 3, Line: slash, Fields: append(many(32), five...), Left: 5}, api.ErrForm},
		{api.Wire{At: 3, Line: slash, Fields: append([]api.Field{{Name: ""}}, five...), Left: 5}, api.ErrForm},
		{api.Wire{At: 4, Line: slash, Fields: inParts}, api.OK},
		{api.Wire{At: 4, Line: slash, Fields: inParts, Chunks: data}, api.OK},
		{api.Wire{At: 4, Line: slash, Fields: inParts, Chunks: api.Chunks{State: api.ChunksDone}}, api.ErrForm},
		{api.Wire{At: 4, Line: slash, Fields: inParts, Chunks: api.Chunks{State: api.ChunksBad, Status: 400}}, api.ErrForm},
		{api.Wire{At: 4, Line: slash, Fields: inParts, Chunks: api.Chunks{State: 9}}, api.ErrForm},
		{api.Wire{At: 4, Line: slash, Fields: inParts, Chunks: api.Chunks{Left: 1}}, api.ErrForm},
		{api.Wire{At: 4, Line: slash, Fields: inParts, Chunks: api.Chunks{State: api.DataCR, Body: text(2049)}}, api.ErrForm},
		{api.Wire{At: 4, Line: slash, Fields: inParts, Chunks: api.Chunks{State: api.DataBytes}}, api.ErrForm},
		{api.Wire{At: 4, Line: slash, Fields: inParts, Text: "a"}, api.ErrForm},
		{api.Wire{At: 4, Line: slash, Fields: inParts, Body: "a"}, api.ErrForm},
		{api.Wire{At: 4, Line: slash, Fields: inParts, Left: 1}, api.ErrForm},
		{api.Wire{At: 4, Fields: inParts}, api.ErrForm},
		{api.Wire{At: 4, Line: badLine, Fields: inParts}, api.ErrForm},
		{api.Wire{At: 4, Line: slash}, api.ErrForm},
		{api.Wire{At: 4, Line: slash, Fields: five}, api.ErrForm},
		{api.Wire{At: 4, Line: slash, Fields: append(five, inParts...)}, api.ErrForm},
		{api.Wire{At: 4, Line: slash, Fields: append(many(31), inParts...)}, api.OK},
		{api.Wire{At: 4, Line: slash, Fields: append(many(32), inParts...)}, api.ErrForm},
		{api.Wire{At: 4, Line: slash, Fields: append([]api.Field{{Name: "a", Value: "\n"}}, inParts...)}, api.ErrForm},
		{api.Wire{At: 5}, api.OK},
		{api.Wire{At: 5, Fields: []api.Field{}}, api.OK},
		{api.Wire{At: 5, Text: "a"}, api.ErrForm},
		{api.Wire{At: 5, Line: slash}, api.ErrForm},
		{api.Wire{At: 5, Fields: five}, api.ErrForm},
		{api.Wire{At: 5, Body: "a"}, api.ErrForm},
		{api.Wire{At: 5, Left: 1}, api.ErrForm},
		{api.Wire{At: 5, Chunks: data}, api.ErrForm},
	} {
		if checkOf(c.w) != c.want {
			t.Errorf("the model of %s: %v, not %v", short(c.w), checkOf(c.w), c.want)
		}
		checkRefused(t, c.w, c.want)
	}
}

// checkRefused checks that all functions with a parser return this error, first and alone.
func checkRefused(t *testing.T, w api.Wire, want api.Errno) {
	t.Helper()
	if e := wire.Check(w); e != want {
		t.Fatalf("%s: %v, not %v", short(w), e, want)
	}
	next, l, e := wire.Feed(w, "\r\n")
	if e != want || want != api.OK && (!same(next, api.Wire{}) || len(l) > 0) {
		t.Fatalf("%s: %s %s %v, not %v", short(w), short(next), shorts(l), e, want)
	}
	if is, e := wire.Over(w); e != want || is != (want == api.OK && w.At == 5) {
		t.Fatalf("%s: %v %v, not %v", short(w), is, e, want)
	}
}

// odd are parsers with all combinations of what they may have in some place, and of a little more than that.
func odd(use func(api.Wire)) {
	for at := range 7 {
		for _, s := range []string{"", "a", "\r", "\n", text(17), text(512) + "\r", text(513)} {
			for _, line := range []api.ReqLine{{}, slash, {Method: "GET", Target: "x"}} {
				for _, fields := range [][]api.Field{nil, five, inParts, many(32), append(many(31), five...), {{Name: "\n"}}} {
					for _, body := range []string{"", "abc", "abcde"} {
						for _, left := range []int{-1, 0, 1, 2, 5} {
							for _, c := range []api.Chunks{{}, {State: 3, Body: "b"}, {State: 5, Line: "a"}, {State: 7}, {Left: -1}} {
								use(api.Wire{At: at, Text: s, Line: line, Fields: fields, Body: body, Left: left, Chunks: c})
							}
						}
					}
				}
			}
		}
	}
}

func TestOddParsers(t *testing.T) {
	found := map[api.Errno]int{}
	places := map[int]int{}
	odd(func(w api.Wire) {
		want := checkOf(w)
		found[want]++
		if want == api.OK {
			places[w.At]++
		}
		checkRefused(t, w, want)
	})
	for _, e := range []api.Errno{api.OK, api.ErrState, api.ErrForm} {
		if found[e] == 0 {
			t.Errorf("no parser has %v", e)
		}
	}
	for at := 1; at <= 5; at++ {
		if places[at] == 0 {
			t.Errorf("no parser is right at %d", at)
		}
	}
}

// P11.2

// Every byte, given to parsers in all places.
func TestEveryByte(t *testing.T) {
	for _, start := range starts() {
		w, before := feedOf(start)
		for b := range 256 {
			one := string([]byte{byte(b)})
			for _, s := range []string{one, one + "\r\n\r\n", one + one} {
				want, all := feedOf(start + s)
				next, l := feed(t, w, s)
				if !same(next, want) || !sameEvents(l, all[len(before):]) {
					t.Fatalf("%.80q takes %q: %s %s, not %s %s", start, s, short(next), shorts(l), short(want), shorts(all[len(before):]))
				}
			}
		}
	}
}

// Every byte, in all places of a text, put between two bytes, and instead of one.
func TestEveryByteOfTexts(t *testing.T) {
	for _, s := range []string{"GET /a HTTP/1.1\r\nA: b\r\n\r\nG", "P / HTTP/1.1\r\nContent-Length: 2\r\n\r\nabP", "P / HTTP/1.1\r\nTransfer-Encoding: chunked\r\n\r\n2\r\nab\r\n0\r\nt:\r\n\r\nP"} {
		for at := range len(s) + 1 {
			for b := range 256 {
				checkFeed(t, s[:at]+string([]byte{byte(b)})+s[at:])
				checkFeed(t, s[:at]+string([]byte{byte(b)})+s[min(at+1, len(s)):])
			}
		}
	}
}

func TestFeed(t *testing.T) {
	head := api.Wire{At: 2, Line: slash}
	for i, c := range []struct {
		w      api.Wire
		s      string
		next   api.Wire
		events []api.WireEvent
	}{
		{api.Wire{At: 1}, "", api.Wire{At: 1}, nil},
		{api.Wire{At: 1}, "G", api.Wire{At: 1, Text: "G"}, nil},
		{api.Wire{At: 1, Text: "G"}, "\r\x00", api.Wire{At: 1, Text: "G\r\x00"}, nil},
		{api.Wire{At: 1, Text: "GET / HTTP/1.1\r"}, "\n", head, []api.WireEvent{{Kind: 1, Line: slash}}},
		{api.Wire{At: 1, Text: "GET / HTTP/1.1"}, "\n", api.Wire{At: 5}, []api.WireEvent{{Kind: 4, Status: 400}}},
		{api.Wire{At: 1, Text: "GET / HTTP/1.1\r\r"}, "\n", api.Wire{At: 5}, []api.WireEvent{{Kind: 4, Status: 400}}},
		{api.Wire{At: 1, Text: "GET /" + text(1023) + "\r"}, "x", api.Wire{At: 5}, []api.WireEvent{{Kind: 4, Status: 414}}},
		{api.Wire{At: 1, Text: "GET / " + text(512)}, "x", api.Wire{At: 5}, []api.WireEvent{{Kind: 4, Status: 400}}},
		{head, "", head, nil},
		{head, "a: ", api.Wire{At: 2, Line: slash, Text: "a: "}, nil},
		{head, "a: b\r\n", api.Wire{At: 2, Line: slash, Fields: many(1)}, nil},
		{head, "a:b \t\r\na:\tb\r\n\r", api.Wire{At: 2, Line: slash, Fields: many(2), Text: "\r"}, nil},
		{head, "\r\n", api.Wire{At: 1}, []api.WireEvent{{Kind: 2, Line: slash}, {Kind: 3, Line: slash}}},
		{head, "\n", api.Wire{At: 5}, []api.WireEvent{{Kind: 4, Line: slash, Status: 400}}},
		{head, "a: b\r\nc\r\nx", api.Wire{At: 5}, []api.WireEvent{{Kind: 4, Line: slash, Status: 400}}},
		{head, "a: b\r\n" + text(513), api.Wire{At: 5}, []api.WireEvent{{Kind: 4, Line: slash, Status: 431}}},
		{head, "a: b\r\na:" + text(510) + "\r\n", api.Wire{At: 5}, []api.WireEvent{{Kind: 4, Line: slash, Status: 431}}},
		{head, "a: b\r\n" + text(511) + ":\r\n", api.Wire{At: 2, Line: slash, Fields: append(many(1), api.Field{Name: text(511)})}, nil},
		{api.Wire{At: 2, Line: slash, Fields: many(31)}, "a: b\r\n\r", api.Wire{At: 2, Line: slash, Fields: many(32), Text: "\r"}, nil},
		{api.Wire{At: 2, Line: slash, Fields: many(32)}, "a", api.Wire{At: 5}, []api.WireEvent{{Kind: 4, Line: slash, Status: 431}}},
		{api.Wire{At: 2, Line: slash, Fields: many(32)}, "\n", api.Wire{At: 5}, []api.WireEvent{{Kind: 4, Line: slash, Status: 400}}},
		{api.Wire{At: 2, Line: slash, Fields: many(32), Text: "\r"}, "\r", api.Wire{At: 5}, []api.WireEvent{{Kind: 4, Line: slash, Status: 431}}},
		{api.Wire{At: 2, Line: slash, Fields: many(32), Text: "\r"}, "\n", api.Wire{At: 1}, []api.WireEvent{{Kind: 2, Line: slash, Fields: many(32)}, {Kind: 3, Line: slash, Fields: many(32)}}},
		{api.Wire{At: 2, Line: slash, Fields: five, Text: "\r"}, "\n", api.Wire{At: 3, Line: slash, Fields: five, Left: 5}, []api.WireEvent{{Kind: 2, Line: slash, Fields: five}}},
		{api.Wire{At: 2, Line: slash, Fields: inParts, Text: "\r"}, "\n", api.Wire{At: 4, Line: slash, Fields: inParts}, []api.WireEvent{{Kind: 2, Line: slash, Fields: inParts}}},
		{api.Wire{At: 2, Line: slash, Fields: append(five, inParts...), Text: "\r"}, "\nx", api.Wire{At: 5}, []api.WireEvent{{Kind: 2, Line: slash, Fields: append(five, inParts...)}, {Kind: 4, Line: slash, Fields: append(five, inParts...), Status: 400}}},
		{api.Wire{At: 3, Line: slash, Fields: five, Left: 5}, "\r\n\x00", api.Wire{At: 3, Line: slash, Fields: five, Left: 2, Body: "\r\n\x00"}, nil},
		{api.Wire{At: 3, Line: slash, Fields: five, Left: 1, Body: "abcd"}, "\n", api.Wire{At: 1}, []api.WireEvent{{Kind: 3, Line: slash, Fields: five, Body: "abcd\n"}}},
		{api.Wire{At: 3, Line: slash, Fields: five, Left: 1, Body: "abcd"}, "eG", api.Wire{At: 1, Text: "G"}, []api.WireEvent{{Kind: 3, Line: slash, Fields: five, Body: "abcde"}}},
		{api.Wire{At: 4, Line: slash, Fields: inParts}, "a", api.Wire{At: 4, Line: slash, Fields: inParts, Chunks: api.Chunks{Size: 10, Digits: 1}}, nil},
		{api.Wire{At: 4, Line: slash, Fields: inParts}, "1\r\nx\r\n0\r\n\r\nG", api.Wire{At: 1, Text: "G"}, []api.WireEvent{{Kind: 3, Line: slash, Fields: inParts, Body: "x"}}},
		{api.Wire{At: 4, Line: slash, Fields: inParts, Chunks: api.Chunks{State: api.DataCR, Body: "b"}}, "\n", api.Wire{At: 5}, []api.WireEvent{{Kind: 4, Line: slash, Fields: inParts, Status: 400}}},
		{api.Wire{At: 4, Line: slash, Fields: inParts, Chunks: api.Chunks{State: api.SizeLF, Size: 2048, Digits: 3, Body: "b"}}, "\n", api.Wire{At: 5}, []api.WireEvent{{Kind: 4, Line: slash, Fields: inParts, Status: 413}}},
		{api.Wire{At: 4, Line: slash, Fields: inParts, Chunks: api.Chunks{State: api.TrailerBytes, Lines: 32}}, "a", api.Wire{At: 5}, []api.WireEvent{{Kind: 4, Line: slash, Fields: inParts, Status: 431}}},
		{api.Wire{At: 4, Line: slash, Fields: inParts, Chunks: api.Chunks{State: api.TrailerLF}}, "\n", api.Wire{At: 1}, []api.WireEvent{{Kind: 3, Line: slash, Fields: inParts}}},
		{api.Wire{At: 5}, "", api.Wire{At: 5}, nil},
		{api.Wire{At: 5}, get + "\r\n\x00\n", api.Wire{At: 5}, nil},
	} {
		next, l := feed(t, c.w, c.s)
		if !same(next, c.next) || !sameEvents(l, c.events) {
			t.Errorf("%d: %s %s", i, short(next), shorts(l))
		}
	}
}

func TestSequences(t *testing.T) {
	for _, s := range sequences(5, "GET", " ", "/", "HTTP/1.1", "\r\n", "\r", "\n", "a:b") {
		checkFeed(t, s)
	}
	pieces := []string{"\r\n", "\r", "\n", "a:b", "a", " ", ":", "Content-Length:1\r\n", "Transfer-Encoding:chunked\r\n"}
	for _, s := range sequences(5, pieces...) {
		checkFeed(t, get+s)
	}
	for _, s := range sequences(5, "\r\n", "0", "1", "a", ":", "\n") {
		checkFeed(t, byChunks+s)
		checkFeed(t, "P /a HTTP/1.1\r\nContent-Length: 3\r\n\r\n"+s)
	}
}

func TestSamples(t *testing.T) {
	for _, s := range samples(20000) {
		checkFeed(t, s)
	}
}

// Requests one behind the other, and what they have of bodies, as fields say it.
func TestFramings(t *testing.T) {
	names := []string{"Content-Length", "content-length", "Transfer-Encoding", "TRANSFER-encoding", "Content-Lengths", "X"}
	values := []string{"", "0", "00", "2", "2, 02", "2,3", "3", "-1", "+2", "2 2", "2,", "x", "0x2", "2048", "2049", "999999999", "1234567890", "chunked", "Chunked", "CHUNKED", "chunked, chunked", "gzip, chunked", "chun\u212aed", "identity"}
	rest := "abc" + get + "\r\n"
	var all []api.Field
	for _, name := range names {
		for _, value := range values {
			all = append(all, api.Field{Name: name, Value: value})
		}
	}
	for _, one := range all {
		checkFeed(t, plain(slash, []api.Field{one}, rest))
		checkFeed(t, plain(slash, []api.Field{one}, "2\r\nab\r\n0\r\n\r\n"+rest))
		for _, two := range all {
			checkFeed(t, plain(slash, []api.Field{one, two}, rest))
		}
	}
}

// Parts about as long as their limits.
func TestLimits(t *testing.T) {
	ends := []string{"", "\r", "\n", "\r\n", "\r\r\n", "\r\n\r\n", "x\r\n\r\n"}
	for _, end := range ends {
		for n := -3; n <= 3; n++ {
			checkFeed(t, strings.Repeat("M", mostMethod+n)+end)
			checkFeed(t, strings.Repeat("M", mostMethod+n)+" / HTTP/1.1"+end)
			checkFeed(t, "GET /"+text(mostTarget-1+n)+end)
			checkFeed(t, "GET /"+text(mostTarget-1+n)+" HTTP/1.1"+end)
			checkFeed(t, "GET / "+text(mostLine+n)+end)
			checkFeed(t, "GET / HTTP/1.1"+text(mostLine-8+n)+end)
			checkFeed(t, strings.Repeat("M", 16)+" /"+text(1023)+" "+text(mostLine+n)+end)
			for _, before := range []string{"", "b:\r\n", strings.Repeat("b:\r\n", 31), strings.Repeat("b:\r\n", 32)} {
				checkFeed(t, get+before+text(mostLine+n)+end)
				checkFeed(t, get+before+"a:"+text(mostLine-2+n)+end)
				checkFeed(t, get+before+"a: "+text(mostLine-3+n)+end)
				checkFeed(t, get+before+"a:"+text(400)+strings.Repeat(" ", mostLine-402+n)+end)
				checkFeed(t, get+before+"a:"+strings.Repeat(" ", mostLine-2+n)+end)
				checkFeed(t, get+before+text(mostLine-1+n)+":"+end)
				checkFeed(t, get+before+text(mostLine-2+n)+":b"+end)
			}
			checkFeed(t, get+strings.Repeat("a: b\r\n", mostFields+n)+end)
			checkFeed(t, byChunks+"0\r\n"+strings.Repeat("a: b\r\n", mostFields+n)+end)
		}
	}
	for _, n := range []int{0, 1, 2, 2047, 2048, 2049, 4096} {
		for _, got := range []int{0, 1, n - 1, n, n + 1} {
			length := "POST / HTTP/1.1\r\nContent-Length: " + strconv.Itoa(n) + "\r\n\r\n"
			checkFeed(t, length+text(max(got, 0)))
			checkFeed(t, length+text(max(got, 0))+get+"\r\n")
			checkFeed(t, byChunks+strconv.FormatInt(int64(n), 16)+"\r\n"+text(max(got, 0))+"\r\n0\r\n\r\n")
		}
	}
}

func TestOver(t *testing.T) {
	for _, w := range valid() {
		if is, e := wire.Over(w); is != (w.At == 5) || e != api.OK {
			t.Errorf("%s: %v %v", short(w), is, e)
		}
	}
	for s, want := range map[string]bool{"": false, get: false, get + "\r\n": false, "|": true, get + "\n": true, byLength + "abcde": false, byChunks + "x": true} {
		w, _ := feed(t, wire.New(), crlf(s))
		if is, e := wire.Over(w); is != want || e != api.OK {
			t.Errorf("%q: %v %v", s, is, e)
		}
	}
}

func TestAll(t *testing.T) {
	one := get + "\r\n"
	full := strings.Repeat(one, mostText/len(one)+1)[:mostText]
	checkFeed(t, full)
	if l, e := wire.All(full); len(l) < 3000 || e != api.OK {
		t.Error(len(l), e)
	}
	for _, s := range []string{full + "G", full + full, "\n" + full} {
		if l, e := wire.All(s); len(l) > 0 || e != api.ErrLong {
			t.Error(len(s), len(l), e)
		}
	}
	if l, e := wire.All(""); len(l) > 0 || e != api.OK {
		t.Error(l, e)
	}
	// Feed has no such limit.
	if _, l := feed(t, wire.New(), strings.Repeat(one, 2000)); len(l) != 6000 {
		t.Error(len(l))
	}
}

// Long texts come to an end, too.
func TestLongTexts(t *testing.T) {
	for _, s := range []string{"x", " ", "\r", "\n", "\r\n", "a:\r\n", "\x00", get, "GET ", get + "\r\n"} {
		long := strings.Repeat(s, 300000/len(s))
		checkFeed(t, long)
		checkFeed(t, get+long)
		checkFeed(t, byLength+long)
		checkFeed(t, byChunks+long)
	}
}

// isNew returns whether a result has memory of its own. Strings of one byte have theirs in the language's own tables.
func isNew(result string, arguments ...string) bool {
	at := uintptr(unsafe.Pointer(unsafe.StringData(result)))
	for _, argument := range arguments {
		from := uintptr(unsafe.Pointer(unsafe.StringData(argument)))
		if len(result) > 1 && at >= from && at < from+uintptr(len(argument)) {
			return false
		}
	}
	return true
}

// wireStrings are the strings of a parser.
func wireStrings(w api.Wire) []string {
	return append([]string{w.Text, w.Line.Method, w.Line.Target, w.Body, w.Chunks.Body, w.Chunks.Line}, fieldStrings(w.Fields)...)
}

// fieldStrings are the strings of fields.
func fieldStrings(fields []api.Field) []string {
	var l []string
	for _, f := range fields {
		l = append(l, f.Name, f.Value)
	}
	return l
}

// eventStrings are the strings of an event.
func eventStrings(e api.WireEvent) []string {
	return append([]string{e.Line.Method, e.Line.Target, e.Body}, fieldStrings(e.Fields)...)
}

// Results have memory of their own.
func TestResultsAreNew(t *testing.T) {
	for _, w := range valid() {
		for _, s := range []string{"", "a", "\r", "\n", "x\r\n\r\n", "b: c\r\n\r\n", text(2048), "\r\n\r\n" + byLength + "abcde"} {
			next, l := feed(t, w, s)
			given := append(wireStrings(w), s)
			for _, e := range l {
				for _, one := range eventStrings(e) {
					if !isNew(one, given...) {
						t.Fatalf("%s takes %.40q: %.40q of an event is a part of an argument", short(w), s, one)
					}
				}
				given = append(given, eventStrings(e)...)
			}
			for _, one := range wireStrings(next) {
				if !isNew(one, given...) {
					t.Fatalf("%s takes %.40q: %.40q is a part of an argument or an event", short(w), s, one)
				}
			}
		}
	}
	if s, e := wire.Text(slash, nil, ""); s != "GET / HTTP/1.1\r\n\r\n" || e != api.OK {
		t.Error(s, e)
	}
}

// No list of a result is another one, or that of an argument.
func TestListsAreNew(t *testing.T) {
	array := make([]api.Field, 4)
	array[0] = api.Field{Name: "Host", Value: "h"}
	w, l := feed(t, api.Wire{At: 2, Line: slash, Fields: array[:1]}, "Content-Length: 5\r\n\r\n")
	fields := []api.Field{{Name: "Host", Value: "h"}, five[0]}
	if !slices.Equal(array, append(fields[:1:1], make([]api.Field, 3)...)) {
		t.Fatal("an argument was changed:", array)
	}
	l[0].Fields[0].Name = "changed"
	array[0].Name = "changed"
	if !slices.Equal(w.Fields, fields) {
		t.Fatal("the parser shares its fields:", w.Fields)
	}
	more, behind := feed(t, w, "abcde"+get+"a:\r\n")
	w.Fields[1].Value = "changed"
	if !slices.Equal(behind[0].Fields, fields) || len(more.Fields) != 1 {
		t.Fatal("an event shares its fields:", behind[0].Fields, short(more))
	}
	for _, s := range []string{get + "a: b\r\n\r\n", byLength + "abcde", byChunks + "0\r\n\r\n", byChunks + "x", get + "Content-Length: x\r\n\r\n"} {
		_, l := feed(t, wire.New(), s)
		want := slices.Clone(l[2].Fields)
		for i := range l[1].Fields {
			l[1].Fields[i] = api.Field{}
		}
		_ = append(l[1].Fields, api.Field{Name: "c"})
		if len(want) == 0 || !slices.Equal(l[2].Fields, want) {
			t.Fatalf("%q: events share their fields: %s", s, shorts(l))
		}
	}
	for _, start := range valid() {
		next, _ := feed(t, start, "")
		if len(start.Fields) > 0 && &next.Fields[0] == &start.Fields[0] {
			t.Fatalf("%s: the parser shares its fields", short(start))
		}
	}
}

// P11.3

// textOf is what Text should return.
func textOf(r api.ReqLine, fields []api.Field, body string) (string, api.Errno) {
	if e := lineError(r); e != api.OK {
		return "", e
	}
	if len(fields) > mostFields {
		return "", api.ErrFull
	}
	for _, f := range fields {
		switch {
		case !tokenForm.MatchString(f.Name):
			return "", api.ErrName
		case !isValue(f.Value):
			return "", api.ErrForm
		case !isField(f):
			return "", api.ErrLong
		}
	}
	sent, is := sentOf(fields, body)
	if !is {
		return "", api.ErrForm
	}
	return plain(r, fields, sent), api.OK
}

// lineError is the error of a request line.
func lineError(r api.ReqLine) api.Errno {
	switch {
	case !tokenForm.MatchString(r.Method) || len(r.Method) > mostMethod:
		return api.ErrName
	case len(r.Target) > mostTarget:
		return api.ErrLong
	case !targetForm.MatchString(r.Target):
		return api.ErrForm
	}
	return api.OK
}

func TestText(t *testing.T) {
	field := func(name, value string) []api.Field { return []api.Field{{Name: name, Value: value}} }
	post := api.ReqLine{Method: "POST", Target: "/x?y"}
	for i, c := range []struct {
		line   api.ReqLine
		fields []api.Field
		body   string
		want   string
		e      api.Errno
	}{
		{slash, nil, "", "GET / HTTP/1.1||", api.OK},
		{slash, []api.Field{}, "", "GET / HTTP/1.1||", api.OK},
		{post, field("Host", "a"), "", "POST /x?y HTTP/1.1|Host: a||", api.OK},
		{post, field("X", ""), "", "POST /x?y HTTP/1.1|X:||", api.OK},
		{post, append(field("X", "1"), field("x", "2")...), "", "POST /x?y HTTP/1.1|X: 1|x: 2||", api.OK},
		{post, field("Content-Length", "3"), "abc", "POST /x?y HTTP/1.1|Content-Length: 3||abc", api.OK},
		{post, field("content-length", "03, 3"), "abc", "POST /x?y HTTP/1.1|content-length: 03, 3||abc", api.OK},
		{post, field("Content-Length", "0"), "", "POST /x?y HTTP/1.1|Content-Length: 0||", api.OK},
		{post, field("Content-Length", "2"), "\r\n", "POST /x?y HTTP/1.1|Content-Length: 2||\r\n", api.OK},
		{post, inParts, "abc", "POST /x?y HTTP/1.1|Transfer-Encoding: chunked||3|abc|0||", api.OK},
		{post, inParts, "", "POST /x?y HTTP/1.1|Transfer-Encoding: chunked||0||", api.OK},
		{post, inParts, text(2048), "POST /x?y HTTP/1.1|Transfer-Encoding: chunked||800|" + text(2048) + "|0||", api.OK},
		{post, inParts, text(2049), "", api.ErrForm},
		{post, field("Content-Length", "2048"), text(2048), "POST /x?y HTTP/1.1|Content-Length: 2048||" + text(2048), api.OK},
		{post, field("Content-Length", "2049"), text(2049), "", api.ErrForm},
		{post, field("Content-Length", "2049"), "", "", api.ErrForm},
		{post, field("Content-Length", "3"), "ab", "", api.ErrForm},
		{post, field("Content-Length", "3"), "abcd", "", api.ErrForm},
		{post, field("Content-Length", "3"), text(2049), "", api.ErrForm},
		{post, field("Content-Length", "3"), "", "", api.ErrForm},
		{post, field("Content-Length", "x"), "", "", api.ErrForm},
		{post, field("Content-Length", ""), "", "", api.ErrForm},
		{post, append(inParts[:1:1], five...), "abcde", "", api.ErrForm},
		{post, field("Transfer-Encoding", "gzip"), "", "", api.ErrForm},
		{post, append(inParts[:1:1], inParts...), "", "", api.ErrForm},
		{post, nil, "a", "", api.ErrForm},
		{post, nil, text(2049), "", api.ErrForm},
		{api.ReqLine{}, nil, "", "", api.ErrName},
		{api.ReqLine{Method: "G T", Target: "/"}, nil, "", "", api.ErrName},
		{api.ReqLine{Method: strings.Repeat("M", 17), Target: "/"}, nil, "", "", api.ErrName},
		{api.ReqLine{Method: "GET"}, nil, "", "", api.ErrForm},
		{api.ReqLine{Method: "GET", Target: "a"}, nil, "", "", api.ErrForm},
		{api.ReqLine{Method: "GET", Target: "/\r\n"}, nil, "", "", api.ErrForm},
		{api.ReqLine{Method: "GET", Target: "/" + text(1024)}, nil, "", "", api.ErrLong},
		{api.ReqLine{Method: "GET", Target: "/" + text(1023)}, nil, "", "GET /" + text(1023) + " HTTP/1.1||", api.OK},
		{slash, many(33), "", "", api.ErrFull},
		{slash, many(32), "", "GET / HTTP/1.1|" + strings.Repeat("a: b|", 32) + "|", api.OK},
		{slash, field("a b", ""), "", "", api.ErrName},
		{slash, field("a", " b"), "", "", api.ErrForm},
		{slash, field("a", "b\r\nc: d"), "", "", api.ErrForm},
		{slash, field("a", text(510)), "", "", api.ErrLong},
		{slash, field("a", text(509)), "", "GET / HTTP/1.1|a: " + text(509) + "||", api.OK},
		{slash, field(text(511), ""), "", "GET / HTTP/1.1|" + text(511) + ":||", api.OK},
		// Several errors at once.
		{api.ReqLine{Target: "/" + text(1024)}, many(33), "a", "", api.ErrName},
		{api.ReqLine{Method: "GET", Target: text(1025)}, many(33), "a", "", api.ErrLong},
		{api.ReqLine{Method: "GET", Target: "#"}, many(33), "a", "", api.ErrForm},
		{slash, slices.Repeat(field("a b", " "), 33), text(2049), "", api.ErrFull},
		{slash, append(field("a", text(510)), field(" ", "")...), "a", "", api.ErrLong},
		{slash, append(field(" ", ""), field("a", text(510))...), "a", "", api.ErrName},
		{slash, append(field("Content-Length", "x"), field(" ", "")...), "a", "", api.ErrName},
	} {
		given := slices.Clone(c.fields)
		s, e := wire.Text(c.line, c.fields, c.body)
		if s != crlf(c.want) || e != c.e {
			t.Errorf("%d: %.80q %v, not %.80q %v", i, s, e, crlf(c.want), c.e)
		}
		if !slices.Equal(given, c.fields) || !isNew(s, c.body) {
			t.Errorf("%d: an argument was changed or kept", i)
		}
		if s, e := textOf(c.line, c.fields, c.body); s != crlf(c.want) || e != c.e {
			t.Errorf("%d: the model has %.80q %v", i, s, e)
		}
	}
}

func TestTextOfAllCombinations(t *testing.T) {
	lines := []api.ReqLine{slash, {Method: "", Target: "/"}, {Method: "a", Target: ""}, {Method: text(16), Target: "/%"}, {Method: text(17), Target: text(1025)}, {Method: "P", Target: text(1025)}, {Method: "P", Target: "/\x7f"}}
	all := []api.Field{five[0], inParts[0], {Name: "a", Value: "b"}, {Name: "", Value: "b"}, {Name: "a", Value: "\x00"}, {Name: "a", Value: text(510)}, {Name: "Content-Length", Value: "0"}, {Name: "Content-Length", Value: "2049"}, {Name: "Transfer-Encoding", Value: "Chunked"}, {Name: "CONTENT-LENGTH", Value: "005"}}
	lists := [][]api.Field{nil, many(31), many(32), many(33)}
	for _, one := range all {
		lists = append(lists, []api.Field{one})
		for _, two := range all {
			lists = append(lists, []api.Field{one, two})
			for _, three := range all {
				lists = append(lists, []api.Field{one, two, three})
			}
		}
	}
	for _, line := range lines {
		for _, fields := range lists {
			for _, body := range []string{"", "a", "abcde", "\r\n\x00\xff0", text(2048), text(2049)} {
				want, wantErr := textOf(line, fields, body)
				if s, e := wire.Text(line, fields, body); s != want || e != wantErr {
					t.Fatalf("%v %.80v %s: %.80q %v, not %.80q %v", line, fields, cut(body), s, e, want, wantErr)
				}
			}
		}
	}
}

func TestTell(t *testing.T) {
	kinds := func(l ...int) []api.WireEvent {
		var events []api.WireEvent
		for i, kind := range l {
			events = append(events, api.WireEvent{Kind: kind, Status: 400 + i})
		}
		return events
	}
	for i, c := range []struct {
		l                []api.WireEvent
		requests, status int
	}{
		{nil, 0, 0},
		{[]api.WireEvent{}, 0, 0},
		{kinds(1, 2), 0, 0},
		{kinds(1, 2, 3), 1, 0},
		{kinds(1, 2, 3, 1, 2, 3, 1), 2, 0},
		{kinds(1, 2, 3, 4), 1, 403},
		{kinds(4), 0, 400},
		{kinds(3, 4, 3, 4, 4), 2, 401},
		{kinds(0, 5, -1, math.MaxInt, math.MinInt), 0, 0},
		{[]api.WireEvent{{Kind: 4}, {Kind: 4, Status: 400}}, 0, 0},
		{[]api.WireEvent{{Kind: 4, Status: -7}, {Kind: 3}}, 1, -7},
		{[]api.WireEvent{{Kind: 3, Status: 400}, {Kind: 4, Status: 431}}, 1, 431},
	} {
		if requests, status := wire.Tell(c.l); requests != c.requests || status != c.status {
			t.Errorf("%d: %d %d", i, requests, status)
		}
	}
	for _, s := range samples(500) {
		w, l := feed(t, wire.New(), s)
		requests, status := wire.Tell(l)
		over, _ := wire.Over(w)
		if over != (status != 0) || requests > len(l)/3 {
			t.Fatalf("%q: %d %d", s, requests, status)
		}
	}
}

// P11.4

// checkDivision checks that feeding in two parts is feeding at once.
func checkDivision(t *testing.T, w api.Wire, first, second string) {
	t.Helper()
	whole, all := feed(t, w, first+second)
	middle, l := feed(t, w, first)
	end, more := feed(t, middle, second)
	if !same(end, whole) || !sameEvents(append(l, more...), all) {
		t.Fatalf("%s takes %.40q and %.40q: %s %s, not %s %s", short(w), first, second, short(end), shorts(append(l, more...)), short(whole), shorts(all))
	}
}

func TestDivisions(t *testing.T) {
	for _, s := range samples(150) {
		for at := range len(s) + 1 {
			checkDivision(t, wire.New(), s[:at], s[at:])
		}
	}
	for _, w := range valid() {
		for _, s := range []string{"\r\n\r\n", "\n" + get, "/ HTTP/1.1\r\na: b\r\n\r\n", ": b\r\nc: d\r\n\r\nG", "bcde" + get, "5\r\nabcde\r\n0\r\n\r\nG"} {
			for at := range len(s) + 1 {
				checkDivision(t, w, s[:at], s[at:])
			}
		}
	}
}

func TestByteByByte(t *testing.T) {
	for _, s := range append(samples(400), starts()...) {
		w := wire.New()
		var events []api.WireEvent
		for i := range len(s) {
			next, l := feed(t, w, s[i:i+1])
			if e := wire.Check(next); e != api.OK {
				t.Fatalf("%.80q: %s: %v", s[:i+1], short(next), e)
			}
			w, events = next, append(events, l...)
		}
		if want, all := feedOf(s); !same(w, want) || !sameEvents(events, all) {
			t.Fatalf("%.80q: %s %s, not %s %s", s, short(w), shorts(events), short(want), shorts(all))
		}
	}
}

func TestChunksOfAnyLength(t *testing.T) {
	r := rand.New(rand.NewSource(4))
	for _, s := range samples(3000) {
		w := wire.New()
		var events []api.WireEvent
		for left := s; left != ""; {
			n := r.Intn(min(len(left), 60) + 1)
			next, l := feed(t, w, left[:n])
			w, events, left = next, append(events, l...), left[n:]
		}
		if want, all := feed(t, wire.New(), s); !same(w, want) || !sameEvents(events, all) {
			t.Fatalf("%.80q: %s %s, not %s %s", s, short(w), shorts(events), short(want), shorts(all))
		}
	}
}

// P11.5

func TestTextIsReadBack(t *testing.T) {
	r := rand.New(rand.NewSource(5))
	s := ""
	var all []api.WireEvent
	for i := range 4000 {
		q := randomRequest(r, []int{3, 40, mostBody}[i%3])
		one, e := wire.Text(q.line, q.fields, q.body)
		if e != api.OK {
			t.Fatalf("%v: %v", q, e)
		}
		w, l := feed(t, wire.New(), one)
		if !same(w, wire.New()) || !sameEvents(l, q.events()) {
			t.Fatalf("%.80q: %s %s", one, short(w), shorts(l))
		}
		s += one
		all = append(all, q.events()...)
		if i%8 > 0 {
			continue
		}
		if w, l := feed(t, wire.New(), s); !same(w, wire.New()) || !sameEvents(l, all) {
			t.Fatalf("%.80q: %s %s", s, short(w), shorts(l))
		}
		s, all = "", nil
	}
}

// Requests with as much as there may be of everything.
func TestLongestTextIsReadBack(t *testing.T) {
	line := api.ReqLine{Method: strings.Repeat("M", 16), Target: "/" + text(1023)}
	for _, framing := range []api.Field{{Name: "Content-Length", Value: "2048"}, inParts[0]} {
		fields := append(slices.Repeat([]api.Field{{Name: "a", Value: text(509)}, {Name: text(511)}, {Name: text(509), Value: "b"}}, 10), framing, api.Field{Name: "b"})
		s, e := wire.Text(line, fields, strings.Repeat("\n", 2048))
		w, l := feed(t, wire.New(), s+s)
		want := request{line, fields, strings.Repeat("\n", 2048), ""}.events()
		if e != api.OK || len(fields) != mostFields || !same(w, wire.New()) || !sameEvents(l, append(want, want...)) {
			t.Fatalf("%v: %s %s", e, short(w), shorts(l))
		}
	}
}

// P11.6

// checkOrder checks that events come in their order.
func checkOrder(t *testing.T, w api.Wire, l []api.WireEvent) {
	t.Helper()
	last := 3
	for i, e := range l {
		wrong := e.Kind == 4 && i == len(l)-1 && slices.Contains([]int{400, 413, 414, 431}, e.Status)
		if !wrong && (e.Kind != last%3+1 || e.Status != 0) {
			t.Fatalf("%s", shorts(l))
		}
		last = e.Kind
	}
	if over, e := wire.Over(w); e != api.OK || over != (last == 4) {
		t.Fatalf("%s behind %s", short(w), shorts(l))
	}
}

func TestOrder(t *testing.T) {
	r := rand.New(rand.NewSource(6))
	for _, s := range append(samples(5000), starts()...) {
		w, l := feed(t, wire.New(), s)
		checkOrder(t, w, l)
		w, l = feed(t, wire.New(), s+noise(r, 40))
		checkOrder(t, w, l)
		if over, _ := wire.Over(w); !over {
			continue
		}
		if next, more := feed(t, w, s+"\r\n"); !same(next, api.Wire{At: 5}) || len(more) > 0 {
			t.Fatalf("%.80q: %s %s behind an error", s, short(next), shorts(more))
		}
	}
}

// Each of the statuses, in each place where it is found.
func TestStatuses(t *testing.T) {
	for s, want := range map[string][]int{
		"GET\n":                         {4, 400},
		"GET|":                          {4, 400},
		" |":                            {4, 400},
		text(17):                        {4, 400},
		"G " + text(1025):               {4, 414},
		"G / " + text(513):              {4, 400},
		get + "\n":                      {1, 4, 400},
		get + "a|":                      {1, 4, 400},
		get + text(513):                 {1, 4, 431},
		get + "a:" + text(510) + "|":    {1, 4, 431},
		get + strings.Repeat("a:|", 33): {1, 4, 431},
		get + "Content-Length: a||":     {1, 2, 4, 400},
		get + "Content-Length: 2049||":  {1, 2, 4, 413},
		get + "Transfer-Encoding: a||":  {1, 2, 4, 400},
		byChunks + "a\n":                {1, 2, 4, 400},
		byChunks + "801|":               {1, 2, 4, 413},
		byChunks + "0|" + text(513):     {1, 2, 4, 431},
		byChunks + "0|" + strings.Repeat("a:|", 33):     {1, 2, 4, 431},
		byChunks + "1|a|0||" + byLength + "abcde" + "|": {1, 2, 3, 1, 2, 3, 4, 400},
	} {
		l, e := wire.All(crlf(s) + "x" + get)
		var got []int
		for _, one := range l {
			got = append(got, one.Kind)
		}
		_, status := wire.Tell(l)
		if !slices.Equal(append(got, status), want) || e != api.OK {
			t.Errorf("%.80q: %v %d %v, not %v", s, got, status, e, want)
		}
	}
}

// P11.7

// checkSizes checks that a parser has nothing that is too much or too long.
func checkSizes(t *testing.T, w api.Wire) {
	t.Helper()
	most := mostMethod + 1 + mostTarget + 1 + mostLine + 1
	if w.At == 2 {
		most = mostLine + 1
	}
	if len(w.Fields) > mostFields || len(w.Body)+w.Left > mostBody || len(w.Chunks.Body)+w.Chunks.Left > mostBody || len(w.Chunks.Line) > mostLine || len(w.Text) > most {
		t.Fatal(short(w))
	}
}

func TestSizes(t *testing.T) {
	for _, s := range []string{
		strings.Repeat("M", 40),
		"GET /" + text(1100) + " HTTP/1.1\r\n",
		"GET / " + text(600),
		strings.Repeat("M", 16) + " /" + text(1023) + " " + text(512) + "\r\r",
		get + strings.Repeat("a: b\r\n", 40),
		get + text(600),
		get + "a: " + text(600) + "\r\n",
		get + strings.Repeat("a:"+text(509)+"\r\n", 5),
		"POST / HTTP/1.1\r\nContent-Length: 2048\r\n\r\n" + text(2100),
		byChunks + strings.Repeat("400\r\n"+text(1024)+"\r\n", 3),
		byChunks + "0\r\n" + strings.Repeat("a: b\r\n", 40),
		byChunks + "0\r\n" + text(600),
	} {
		w := wire.New()
		for i := range len(s) {
			w, _ = feed(t, w, s[i:i+1])
			checkSizes(t, w)
		}
		if want, _ := feedOf(s); !same(w, want) {
			t.Fatalf("%.80q: %s, not %s", s, short(w), short(want))
		}
	}
}

// P11.8

// renamed are events with another name, or another value, of the field i.
func renamed(l []api.WireEvent, i int, f api.Field) []api.WireEvent {
	l = slices.Clone(l)
	for k := range l {
		if len(l[k].Fields) > 0 {
			l[k].Fields = slices.Clone(l[k].Fields)
			l[k].Fields[i] = f
		}
	}
	return l
}

func TestCaseAndBlanksDoNotMatter(t *testing.T) {
	r := rand.New(rand.NewSource(8))
	for range 4000 {
		q := randomRequest(r, 30)
		_, want := feed(t, wire.New(), q.text())
		if !sameEvents(want, q.events()) {
			t.Fatalf("%q: %s", q.text(), shorts(want))
		}
		for i, f := range q.fields {
			line := fieldLine(f) + "\r\n"
			before := plain(q.line, q.fields[:i], "")
			before = strings.TrimSuffix(before, "\r\n")
			behind := strings.TrimPrefix(q.text(), before+line)
			blanks := []string{"", " ", "\t", " \t  "}
			for _, name := range []string{f.Name, lower(f.Name), strings.ToUpper(f.Name)} {
				changed := name + ":" + pick(r, blanks...) + f.Value + pick(r, blanks...) + "\r\n"
				w, l := feed(t, wire.New(), before+changed+behind)
				if !same(w, wire.New()) || !sameEvents(l, renamed(want, i, api.Field{Name: name, Value: f.Value})) {
					t.Fatalf("%q instead of %q in %q: %s %s, not %s", changed, line, q.text(), short(w), shorts(l), shorts(want))
				}
			}
		}
	}
}

// A value may have as many blanks around it as there is room in a line.
func TestManyBlanks(t *testing.T) {
	for _, s := range []string{"a:" + strings.Repeat(" ", 509) + "b", "a:b" + strings.Repeat("\t", 509), "a:" + strings.Repeat(" \t", 255), "a:" + strings.Repeat(" ", 510)} {
		w, l := feed(t, wire.New(), get+s+"\r\n\r\n")
		value := strings.Trim(s[2:], " \t")
		if len(s) != 512 || !same(w, wire.New()) || !sameEvents(l, request{slash, []api.Field{{Name: "a", Value: value}}, "", ""}.events()) {
			t.Errorf("%q: %s %s", s, short(w), shorts(l))
		}
	}
	for _, value := range []string{"5", " 5", "5 \t", "\t05\t"} {
		for _, name := range []string{"Content-Length", "content-length", "CONTENT-LENGTH"} {
			fields := []api.Field{{Name: name, Value: strings.Trim(value, " \t")}}
			_, l := feed(t, wire.New(), get+name+":"+value+"\r\n\r\nabcde")
			if !sameEvents(l, request{slash, fields, "abcde", ""}.events()) {
				t.Errorf("%s:%q: %s", name, value, shorts(l))
			}
		}
	}
}

// The bodies of chunks are read however they are divided.
func TestChunksOfBodies(t *testing.T) {
	r := rand.New(rand.NewSource(9))
	for range 300 {
		body := noise(r, mostBody)
		sent, e := chunked.Encode(body, []int{1 + r.Intn(50), 1 + r.Intn(2000), 1})
		w, l := feed(t, wire.New(), plain(slash, inParts, sent)+get)
		want := append(request{slash, inParts, body, ""}.events(), api.WireEvent{Kind: 1, Line: slash})
		if e != api.OK || !same(w, api.Wire{At: 2, Line: slash}) || !sameEvents(l, want) {
			t.Fatalf("%s: %s %s", cut(body), short(w), shorts(l))
		}
	}
}
