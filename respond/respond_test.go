package respond_test

import (
	"fmt"
	"math"
	"regexp"
	"slices"
	"strings"
	"testing"

	"waypost/api"
	"waypost/respond"
)

// P12.1

func TestReason(t *testing.T) {
	for code, want := range reasons() {
		if got, e := respond.Reason(code); got != want || e != api.OK {
			t.Errorf("%d: %q %v, not %q", code, got, e, want)
		}
	}
	others := []int{math.MinInt, math.MinInt32, math.MaxInt32, math.MaxInt, 1<<32 + 200, -1<<32 + 200, 1<<16 + 200}
	for code := -1000; code < 6000; code++ {
		others = append(others, code)
	}
	for _, code := range others {
		want, wantErr := reasonOf(code)
		if got, e := respond.Reason(code); got != want || e != wantErr {
			t.Errorf("%d: %q %v, not %q %v", code, got, e, want, wantErr)
		}
	}
}

func TestMayExamples(t *testing.T) {
	for _, c := range []struct {
		f    api.Field
		want api.Errno
	}{
		{f("content-length", "3"), api.ErrName},
		{f("a b", "c"), api.ErrName},
		{f("a", "\t"), api.ErrForm},
		{f("a", " "), api.ErrForm},
		{f("a", ""), api.OK},
		{f("a", "b c"), api.OK},
		{f("a", "b  c"), api.OK},
		{f("a", "b: c"), api.OK},
		{f("", ""), api.ErrName},
		{f("", "b"), api.ErrName},
		{f("a:", "b"), api.ErrName},
		{f("a\r\n", "b"), api.ErrName},
		{f("é", "b"), api.ErrName},
		{f("a", " b"), api.ErrForm},
		{f("a", "b "), api.ErrForm},
		{f("a", "b\tc"), api.ErrForm},
		{f("a", "b\r\nc"), api.ErrForm},
		{f("a", "b\x00"), api.ErrForm},
		{f("a", "é"), api.ErrForm},
		{f("a", "\xff"), api.ErrForm},
	} {
		if got := respond.May(c.f); got != c.want {
			t.Errorf("%q: %v, not %v", c.f, got, c.want)
		}
		checkField(t, c.f)
	}
}

func TestMayKeptNames(t *testing.T) {
	for _, name := range []string{"Content-Length", "Transfer-Encoding", "Connection"} {
		for _, kept := range []string{name, strings.ToLower(name), strings.ToUpper(name)} {
			if got := respond.May(f(kept, "b")); got != api.ErrName {
				t.Errorf("%s: %v", kept, got)
			}
		}
		for i := range len(name) {
			for _, part := range []string{name[:i], name[i:], name[:i] + name[i+1:], name[:i] + "x" + name[i:], name[:i] + "x" + name[i+1:]} {
				checkField(t, f(part, "b"))
			}
			for b := range 256 {
				checkField(t, f(name[:i]+string([]byte{byte(b)})+name[i+1:], "b"))
			}
		}
		for _, other := range []string{name + "s", "X-" + name, name + "-", "-" + name, name + name} {
			if got := respond.May(f(other, "b")); got != api.OK {
				t.Errorf("%s: %v", other, got)
			}
		}
	}
	for _, name := range []string{"ContentLength", "Content_Length", "TransferEncoding", "Keep-Alive", "Content-Type", "Location", "Host", "Trailer", "Te", "Upgrade", "Content-Encoding", "Transfer-Length"} {
		if got := respond.May(f(name, "b")); got != api.OK {
			t.Errorf("%s: %v", name, got)
		}
	}
}

func TestMayBytes(t *testing.T) {
	for b := range 256 {
		s := string([]byte{byte(b)})
		for _, place := range []string{s, s + "a", "a" + s, "a" + s + "a", s + text(39), text(39) + s, text(20) + s + text(19)} {
			checkField(t, f(place, ""))
			checkField(t, f(place, "b c"))
			checkField(t, f("a", place))
			checkField(t, f("a", place+text(mostValue-len(place))))
			checkField(t, f("a", text(mostValue-len(place))+place))
		}
		for c := range 256 {
			two := s + string([]byte{byte(c)})
			checkField(t, f(two, ""))
			checkField(t, f("a", two))
		}
	}
}

func TestMayLengths(t *testing.T) {
	for n := range 100 {
		checkField(t, f(text(n), "b"))
		checkField(t, f(text(n), text(mostValue+1)))
	}
	for n := range 1100 {
		checkField(t, f("a", text(n)))
	}
	for _, n := range []int{4096, 5000, 65536, 65537, 1 << 20} {
		checkField(t, f(text(n), "b"))
		checkField(t, f("a", text(n)))
		checkField(t, f("a", strings.Repeat(" ", n)))
	}
}

func TestMayOrder(t *testing.T) {
	values := []string{"", "b", " ", "\n", text(1024), text(1025), strings.Repeat("\n", 1024), strings.Repeat("\n", 1025), " " + text(1024), text(1024) + " "}
	for _, name := range []string{"", " ", "a", text(40), text(41), "Connection", "a\n"} {
		for _, value := range values {
			checkField(t, f(name, value))
		}
	}
	if got := respond.May(f("a b", strings.Repeat("\n", 1025))); got != api.ErrName {
		t.Error(got)
	}
	if got := respond.May(f("a", strings.Repeat("\n", 1025))); got != api.ErrLong {
		t.Error(got)
	}
	if got := respond.May(f("a", strings.Repeat("\n", 1024))); got != api.ErrForm {
		t.Error(got)
	}
}

func TestSafe(t *testing.T) {
	for b := range 256 {
		s := string([]byte{byte(b)})
		want := b != '\r' && b != '\n' && b != 0
		for _, in := range []string{s, s + "a", "a" + s, "é" + s, s + "é", "\xff" + s + "\xff", text(20) + s, s + text(20), text(20) + s + text(20), strings.Repeat("\xff", 20) + s, strings.Repeat("é", 20) + s} {
			if got := respond.Safe(in); got != want {
				t.Errorf("%q: %v", in, got)
			}
		}
	}
	for s, want := range map[string]bool{"": true, "a b": true, "\t\x7f\x01": true, `\r\n\0`: true, "\r\n": false, "a\r\nb": false, "�\u010d\u010a\u0100": true, text(100000): true, text(100000) + "\n": false} {
		if respond.Safe(s) != want {
			t.Errorf("%s", cut(s))
		}
	}
}

// P12.2

func TestCheckExamples(t *testing.T) {
	for i, c := range []struct {
		r    api.Response
		want api.Errno
	}{
		{api.Response{Code: 201}, api.ErrKind},
		{api.Response{Code: 200, Fields: fields(33)}, api.ErrFull},
		{api.Response{Code: 200, Fields: fields(32)}, api.OK},
		{api.Response{Code: 200, Body: text(4096)}, api.OK},
		{api.Response{Code: 200, Body: text(4097)}, api.ErrLong},
		{api.Response{Code: 200, Body: text(4097), Head: true}, api.ErrLong},
		{api.Response{Code: 200, Body: "\r\n\x00\xff"}, api.OK},
		{api.Response{}, api.ErrKind},
		{api.Response{Code: -200}, api.ErrKind},
		{api.Response{Code: math.MaxInt}, api.ErrKind},
		{api.Response{Code: math.MinInt}, api.ErrKind},
		{api.Response{Code: 201, Fields: fields(33), Body: text(4097)}, api.ErrKind},
		{api.Response{Code: 200, Fields: make([]api.Field, 33), Body: text(4097)}, api.ErrFull},
		{api.Response{Code: 200, Fields: []api.Field{f("a", "b"), f("a", "\n"), f("", "")}, Body: text(4097)}, api.ErrForm},
		{api.Response{Code: 200, Fields: []api.Field{f("a", "b"), f("", ""), f("a", "\n")}}, api.ErrName},
		{api.Response{Code: 200, Fields: []api.Field{f("a", text(1025)), f("", "")}}, api.ErrLong},
		{api.Response{Code: 500, Fields: append(fields(31), f("connection", "close"))}, api.ErrName},
		{api.Response{Code: 500, Fields: append(fields(31), f("a", "b "))}, api.ErrForm},
	} {
		if got := respond.Check(c.r); got != c.want {
			t.Errorf("case %d: %v, not %v", i, got, c.want)
		}
		checkText(t, c.r)
	}
}

func TestCheckOrder(t *testing.T) {
	wrong := []api.Field{f("a", "b"), f("", "b"), f("Connection", "close"), f("a", text(1025)), f("a", "\n"), f("a", " b")}
	var lists [][]api.Field
	for _, one := range wrong {
		for _, other := range wrong {
			lists = append(lists, []api.Field{one, other}, append(fields(30), one, other), append(fields(31), one, other))
		}
	}
	lists = append(lists, nil, []api.Field{}, fields(1), fields(31), fields(32), fields(33), fields(100))
	for _, code := range []int{0, 200, 201, 500} {
		for _, l := range lists {
			for _, body := range []string{"", "b", text(4096), text(4097)} {
				checkText(t, api.Response{Code: code, Fields: l, Body: body, Close: len(l) == 2, Head: len(body) == 1})
			}
		}
	}
}

func TestTextExamples(t *testing.T) {
	for _, c := range []struct {
		r    api.Response
		want string
	}{
		{api.Response{Code: 200, Body: "hi"}, "HTTP/1.1 200 OK\r\nContent-Length: 2\r\n\r\nhi"},
		{api.Response{Code: 301, Fields: []api.Field{f("Location", "/b")}, Body: "abc", Close: true, Head: true}, "HTTP/1.1 301 Moved Permanently\r\nLocation: /b\r\nContent-Length: 3\r\nConnection: close\r\n\r\n"},
		{api.Response{Code: 500}, "HTTP/1.1 500 Internal Server Error\r\nContent-Length: 0\r\n\r\n"},
		{api.Response{Code: 404, Fields: []api.Field{f("b", ""), f("A", "x: y"), f("b", "2")}, Body: "\r\n", Close: true}, "HTTP/1.1 404 Not Found\r\nb: \r\nA: x: y\r\nb: 2\r\nContent-Length: 2\r\nConnection: close\r\n\r\n\r\n"},
	} {
		if got, e := respond.Text(c.r); got != c.want || e != api.OK {
			t.Errorf("%q %v, not %q", got, e, c.want)
		}
		checkText(t, c.r)
	}
}

func TestTextCodes(t *testing.T) {
	for code := -10; code < 1100; code++ {
		checkText(t, api.Response{Code: code, Body: "b"})
	}
}

func TestTextLengths(t *testing.T) {
	for n := range mostBody + 3 {
		for _, head := range []bool{false, true} {
			checkText(t, api.Response{Code: 200, Body: text(n), Head: head, Close: n%2 == 0})
		}
	}
	for n := range mostFields + 3 {
		checkText(t, api.Response{Code: 200, Fields: fields(n)})
	}
}

func TestTextOfMany(t *testing.T) {
	for _, r := range responses(2000) {
		checkText(t, r)
	}
}

// P12.3

func TestParseExamples(t *testing.T) {
	want := api.Response{Code: 200, Body: "hi"}
	for _, more := range []string{"", "more", hi, "\r\n", "\x00"} {
		if r, used, g := respond.Parse(hi+more, false); !same(r, want) || used != 40 || g != (api.Fault{}) {
			t.Errorf("%q behind it: %s %d %v", more, short(r), used, g)
		}
		checkParse(t, hi+more)
	}
	if r, used, g := respond.Parse(hi, true); !same(r, api.Response{Code: 200, Head: true}) || used != 38 || g != (api.Fault{}) {
		t.Errorf("%s %d %v", short(r), used, g)
	}
	for s, at := range map[string]int{
		hi[:39]:                                  39,
		hi[:38]:                                  38,
		strings.Replace(hi, "1.1", "1.0", 1):     0,
		strings.Replace(hi, "C", "c", 1):         17,
		strings.ToLower(hi):                      0,
		ok + strings.ToLower(hi[17:]):            17,
		"":                                       0,
		"\r\n" + hi:                              0,
		ok:                                       17,
		ok + "\r\n":                              17,
		ok + "a: b\r\n":                          23,
		ok + "a: b\r\n\r\n":                      23,
		ok + "Content-Length: 0":                 17,
		ok + "Content-Length: 0\r":               17,
		ok + "Content-Length: 0\n\n":             17,
		ok + empty:                               36,
		ok + empty + "\r":                        36,
		ok + empty + "\n":                        36,
		ok + empty + "a: b\r\n\r\n":              36,
		ok + empty + "Connection: Close\r\n\r\n": 36,
		ok + empty + "connection: close\r\n\r\n": 36,
		ok + empty + "Connection: close \r\n":    36,
		ok + empty + "Connection: close":         36,
		ok + empty + closing:                     55,
		ok + empty + closing + closing + "\r\n":  55,
		ok + empty + closing + "a: b\r\n\r\n":    55,
		ok + closing + empty + "\r\n":            17,
		ok + "a:b\r\n" + empty + "\r\n":          17,
		ok + "a : b\r\n" + empty + "\r\n":        17,
		ok + "a:  b\r\n" + empty + "\r\n":        17,
		ok + "a: b\nc: d\r\n" + empty + "\r\n":   17,
		ok + "a: b\rc\r\n" + empty + "\r\n":      17,
		ok + "a: b\r\r\n" + empty + "\r\n":       17,
		ok + "a\r\n" + empty + "\r\n":            17,
		ok + ": b\r\n" + empty + "\r\n":          17,
	} {
		if r, used, g := respond.Parse(s, false); !same(r, api.Response{}) || used != 0 || g != (api.Fault{Err: api.ErrForm, At: at}) {
			t.Errorf("%q: %s %d %v, not at %d", s, short(r), used, g, at)
		}
		checkParse(t, s)
	}
}

func TestParseCodes(t *testing.T) {
	const rest = "\r\nContent-Length: 0\r\n\r\n"
	for code := -10; code < 1100; code++ {
		for _, reason := range []string{"", "OK", "Found", reasons()[code]} {
			checkParse(t, fmt.Sprint("HTTP/1.1 ", code, " ", reason, rest))
		}
		checkParse(t, fmt.Sprint("HTTP/1.1 ", code, rest))
		checkParse(t, fmt.Sprint("HTTP/1.1 0", code, " ", reasons()[code], rest))
		checkParse(t, fmt.Sprint("HTTP/1.1 +", code, " ", reasons()[code], rest))
	}
	for _, code := range codes() {
		for _, other := range codes() {
			checkParse(t, fmt.Sprint("HTTP/1.1 ", code, " ", reasons()[other], rest))
		}
		for _, line := range []string{"HTTP/1.1 %d %s ", " HTTP/1.1 %d %s", "HTTP/1.1  %d %s", "HTTP/1.1 %d  %s", "http/1.1 %d %s", "HTTP/1.10 %d %s", "HTTP/1.1 %d%s", "HTTP/1.1%d %s", "%d %s", "HTTP/1.1 HTTP/1.1 %d %s", "a %d %s", "HTTP/1.1 000000%d %s"} {
			checkParse(t, fmt.Sprintf(line, code, reasons()[code])+rest)
		}
		checkParse(t, fmt.Sprint("HTTP/1.1 ", code, " ", strings.ToUpper(reasons()[code]), rest))
		checkParse(t, fmt.Sprint("HTTP/1.1 ", code, " ", strings.ToLower(reasons()[code]), rest))
	}
	for _, code := range []string{"", "0", "0x0c8", "4294967496", "18446744073709551816", "99999999999999999999999999", strings.Repeat("0", 1000) + "200", strings.Repeat("2", 1000)} {
		checkParse(t, "HTTP/1.1 "+code+" OK"+rest)
		checkParse(t, "HTTP/1.1 "+code+rest)
		checkParse(t, "HTTP/1.1 "+code+" "+rest)
	}
}

func TestParseLengths(t *testing.T) {
	body := text(mostBody + 10)
	for n := range mostBody + 3 {
		line := fmt.Sprint(ok, "Content-Length: ", n, "\r\n\r\n")
		checkParse(t, line+body)
		if n > 0 {
			checkParse(t, line+body[:n-1])
		}
		checkParse(t, line+body[:n])
		for _, zeros := range []string{"0", "00", "000", "+", "-", " ", "\t"} {
			checkParse(t, fmt.Sprint(ok, "Content-Length: ", zeros, n, "\r\n\r\n", body[:20]))
		}
	}
	for _, length := range []string{"", "-1", "+1", "1 ", " 1", "0x1", "1,1", "1, 1", "1.0", "1e1", "a", "4294967296", "4294967297", "18446744073709551616", "18446744073709551617", "9999999999999999999999", strings.Repeat("0", 1000), strings.Repeat("9", 1000), "٣"} {
		for _, name := range []string{"Content-Length: ", "Content-Length:", "Content-Length:  ", "content-length: ", "CONTENT-LENGTH: ", "Content-Length ", "Content-Length", " Content-Length: ", "Content-length: ", "Content-Length : ", "", "Content-Length: Content-Length: "} {
			checkParse(t, ok+name+length+"\r\n\r\n"+body[:20])
			checkParse(t, ok+name+"1"+length+"\r\n\r\n"+body[:20])
		}
	}
}

func TestParseFields(t *testing.T) {
	for n := range mostFields + 4 {
		for _, behind := range []string{"", "\r\n", empty + "\r\n", closing, "a b\r\n", "Content-Length: 2\r\n\r\nhi"} {
			checkParse(t, ok+strings.Repeat("a: b\r\n", n)+behind)
		}
	}
	r, _, g := respond.Parse(ok+"a: b\r\nc: \r\na: d e\r\nContent-Length: 2\r\n\r\nhi", false)
	if want := []api.Field{f("a", "b"), f("c", ""), f("a", "d e")}; !slices.Equal(r.Fields, want) || g != (api.Fault{}) {
		t.Errorf("%q %v", r.Fields, g)
	}
	for _, name := range []string{"", "a", text(40), text(41), "Connection", "connection", "Transfer-Encoding", "Content-Length", "Content-Type", "a:", "a ", " a", "é", "a:b"} {
		for _, value := range []string{"", "b", " ", "b ", " b", "b c", ":", ": ", ": b", "b: c", "\t", "\r", "\n", "\x00", "\x7f", "\xff", "close", "chunked", text(1024), text(1025), "~"} {
			checkParse(t, ok+name+": "+value+"\r\n"+empty+"\r\n")
			checkParse(t, ok+name+":"+value+"\r\n"+empty+"\r\n")
			checkParse(t, ok+empty+name+": "+value+"\r\n\r\n")
		}
	}
}

func TestParseBytes(t *testing.T) {
	for _, s := range []string{"HTTP/1.1 308 Permanent Redirect\r\nLocation: /b c\r\nx: \r\nContent-Length: 12\r\nConnection: close\r\n\r\n0123456789ab", hi} {
		for at := range len(s) + 1 {
			checkParse(t, s[:at])
			checkParse(t, s[at:])
			for b := range 256 {
				one := string([]byte{byte(b)})
				checkParse(t, s[:at]+one+s[at:])
				checkParse(t, s[:at]+one)
				if at < len(s) {
					checkParse(t, s[:at]+one+s[at+1:])
				}
			}
			for to := at; to <= len(s); to++ {
				checkParse(t, s[:at]+s[to:])
			}
		}
	}
}

func TestParseLines(t *testing.T) {
	pieces := []string{ok, "a: b\r\n", "b: \r\n", empty, "Content-Length: 3\r\n", closing, "\r\n", "\n", "\r", "abc", "a", ": ", "HTTP/1.1 404 Not Found\r\n"}
	for _, s := range sequences(4, pieces...) {
		checkParse(t, s)
		checkParse(t, ok+s)
		checkParse(t, ok+s+"\r\n")
	}
}

func TestParseMany(t *testing.T) {
	for _, s := range samples(20000) {
		checkParse(t, s)
	}
}

func TestParseLong(t *testing.T) {
	for _, long := range []string{text(1 << 20), strings.Repeat(" ", 1<<20), strings.Repeat("a: b\r\n", 1<<16), strings.Repeat("\r", 1<<20), strings.Repeat("\n", 1<<20), strings.Repeat("\r\n", 1<<19)} {
		for _, s := range []string{long, ok + long, ok + "a: " + long, ok + empty + long, ok + empty + closing + long, ok + empty + "\r\n" + long} {
			checkParse(t, s)
			checkParse(t, s+"\r\n")
		}
	}
}

// P12.4

func TestAllExamples(t *testing.T) {
	for i, c := range []struct {
		s     string
		heads []bool
		n     int
		want  api.Fault
	}{
		{"", nil, 0, api.Fault{}},
		{"", []bool{}, 0, api.Fault{}},
		{hi, []bool{false}, 1, api.Fault{}},
		{hi[:38], []bool{true}, 1, api.Fault{}},
		{hi[:38] + hi + hi, []bool{true, false, false}, 3, api.Fault{}},
		{hi + hi[:38] + hi, []bool{false, true, false}, 3, api.Fault{}},
		{"", []bool{false}, 0, api.Fault{Err: api.ErrForm}},
		{"", []bool{true}, 0, api.Fault{Err: api.ErrForm}},
		{"x", nil, 0, api.Fault{Err: api.ErrForm}},
		{hi, nil, 0, api.Fault{Err: api.ErrForm}},
		{hi, []bool{true}, 0, api.Fault{Err: api.ErrForm, At: 38}},
		{hi, []bool{true, true}, 0, api.Fault{Err: api.ErrForm, At: 38}},
		{hi, []bool{false, false}, 0, api.Fault{Err: api.ErrForm, At: 40}},
		{hi + "x", []bool{false}, 0, api.Fault{Err: api.ErrForm, At: 40}},
		{hi + hi, []bool{false}, 0, api.Fault{Err: api.ErrForm, At: 40}},
		{hi + "x" + hi, []bool{false, false}, 0, api.Fault{Err: api.ErrForm, At: 40}},
		{hi + hi[:39], []bool{false, false}, 0, api.Fault{Err: api.ErrForm, At: 79}},
		{hi + hi + strings.ToLower(hi), []bool{false, false, false}, 0, api.Fault{Err: api.ErrForm, At: 80}},
		{hi + ok + strings.ToLower(hi[17:]) + "x", []bool{false, false, false}, 0, api.Fault{Err: api.ErrForm, At: 57}},
		{hi + hi + hi + ok, []bool{false, false, false}, 0, api.Fault{Err: api.ErrForm, At: 120}},
	} {
		l, g := respond.All(c.s, c.heads)
		if len(l) != c.n || g != c.want {
			t.Errorf("case %d: %d responses, %v, not %d, %v", i, len(l), g, c.n, c.want)
		}
		checkAll(t, c.s, c.heads)
	}
}

// allHeads are all lists of at most n elements.
func allHeads(n int) [][]bool {
	l := [][]bool{nil}
	for i := 0; len(l[i]) < n; i++ {
		l = append(l, append(slices.Clone(l[i]), false), append(slices.Clone(l[i]), true))
	}
	return l
}

func TestAllSequences(t *testing.T) {
	pieces := []string{hi, hi[:38], ok + empty + "\r\n", ok + empty + closing + "\r\n", ok, "x", "\r\n", "hi"}
	heads := allHeads(3)
	for _, s := range sequences(3, pieces...) {
		for _, l := range heads {
			checkAll(t, s, l)
		}
	}
}

func TestAllCuts(t *testing.T) {
	s := hi + "HTTP/1.1 302 Found\r\nLocation: /\r\nContent-Length: 0\r\nConnection: close\r\n\r\n" + hi[:38]
	for at := range len(s) + 1 {
		for _, heads := range allHeads(4) {
			checkAll(t, s[:at], heads)
			checkAll(t, s[:at]+"x"+s[at:], heads)
		}
	}
}

func TestAllLong(t *testing.T) {
	const n = 20000
	l, g := respond.All(strings.Repeat(hi, n), make([]bool, n))
	if len(l) != n || g != (api.Fault{}) {
		t.Error(len(l), g)
	}
	if l, g := respond.All(strings.Repeat(hi, n), make([]bool, n+1)); len(l) != 0 || g != (api.Fault{Err: api.ErrForm, At: n * 40}) {
		t.Error(len(l), g)
	}
}

// P12.5

func TestParseOfText(t *testing.T) {
	for i, r := range responses(5000) {
		s := sent(t, r)
		want := r
		if r.Head {
			want.Body = ""
		}
		for _, behind := range []string{"", "x", "\r\n", "\x00", hi, samples(1)[0], text(i % 100)} {
			if got, used, g := respond.Parse(s+behind, r.Head); !same(got, want) || used != len(s) || g != (api.Fault{}) {
				t.Fatalf("%s and %s: %s %d %v", cut(s), cut(behind), short(got), used, g)
			}
		}
	}
}

// P12.6

func TestTextOfParse(t *testing.T) {
	texts := append(samples(20000), sequences(3, ok, "a: b\r\n", "b: \r\n", empty+"\r\n", "Content-Length: 2\r\n", closing, "\r\n", "hi")...)
	read := 0
	for _, s := range texts {
		r, used, g := respond.Parse(s, false)
		if g != (api.Fault{}) {
			continue
		}
		read++
		if got := sent(t, r); got != s[:used] {
			t.Fatalf("%s is read as %s, which is %s", cut(s[:used]), short(r), cut(got))
		}
		r, used, g = respond.Parse(s, true)
		if g != (api.Fault{}) || !r.Head {
			t.Fatalf("%s: %s %v", cut(s), short(r), g)
		}
		if got := sent(t, r); strings.Contains(s[:used], "\r\nContent-Length: 0\r\n") && got != s[:used] {
			t.Fatalf("%s is read as %s, which is %s", cut(s[:used]), short(r), cut(got))
		}
	}
	if read < 1000 {
		t.Error("too few texts are read:", read)
	}
}

// P12.7

func TestLinesOfText(t *testing.T) {
	status := regexp.MustCompile(`\AHTTP/1\.1 [1-5][0-9][0-9] [A-Za-z ]+\z`)
	field := regexp.MustCompile("\\A[!#$%&'*+\\-.^_`|~0-9A-Za-z]+: [^\r\n\x00]*\\z")
	check := func(r api.Response) {
		s := sent(t, r)
		if !r.Head {
			s = strings.TrimSuffix(s, r.Body)
		}
		lines := strings.Split(s, "\r\n")
		if n := len(lines); n < 4 || lines[n-1] != "" || lines[n-2] != "" || !status.MatchString(lines[0]) {
			t.Fatalf("%s: %q", short(r), lines)
		}
		for _, line := range lines[1 : len(lines)-2] {
			if !field.MatchString(line) || !respond.Safe(line) {
				t.Fatalf("%s: %q", short(r), line)
			}
		}
	}
	for _, r := range responses(2000) {
		check(r)
	}
	for b := range 256 {
		one := string([]byte{byte(b)})
		for _, g := range []api.Field{f("a"+one, "b"), f("a", "b"+one+"c"), f("a", one), f(one, "b")} {
			if r := (api.Response{Code: 200, Fields: []api.Field{g}, Body: "b"}); respond.Check(r) == api.OK {
				check(r)
			}
		}
	}
}

// P12.8

func TestAllOfTexts(t *testing.T) {
	for n := range 7 {
		for some := range slices.Chunk(responses(1000), n+1) {
			s := ""
			var heads []bool
			var want []api.Response
			for _, r := range some {
				s += sent(t, r)
				heads = append(heads, r.Head)
				if r.Head {
					r.Body = ""
				}
				want = append(want, r)
			}
			l, g := respond.All(s, heads)
			if !slices.EqualFunc(l, want, same) || g != (api.Fault{}) {
				t.Fatalf("%s, %v: %d responses, %v, not %d", cut(s), heads, len(l), g, len(want))
			}
		}
	}
}

// P12.9

func TestTextWithHead(t *testing.T) {
	for _, r := range responses(3000) {
		r.Head = false
		whole := sent(t, r)
		r.Head = true
		if head := sent(t, r); head+r.Body != whole {
			t.Fatalf("%s: %s, not %s", short(r), cut(head), cut(whole))
		}
	}
}

// R4

func TestResultsAreNew(t *testing.T) {
	s := ok + "Location: /b\r\nx: y\r\nContent-Length: 5\r\n\r\nabcde"
	for range 2 {
		r, _, _ := respond.Parse(s, false)
		for _, part := range []string{r.Fields[0].Name, r.Fields[0].Value, r.Fields[1].Name, r.Fields[1].Value, r.Body} {
			if part == "" || !isNew(part, s) {
				t.Errorf("%q", part)
			}
		}
		l, _ := respond.All(s+s, []bool{false, false})
		l[0].Fields[0].Name = "z"
		if l[1].Fields[0].Name != "Location" || r.Fields[0].Name != "Location" {
			t.Errorf("%q %q", l[1].Fields, r.Fields)
		}
	}
}

func TestArgumentsStay(t *testing.T) {
	r := api.Response{Code: 404, Fields: []api.Field{f("CONTENT-Type", "B"), f("a", " "), f("c", "d")}, Body: "b", Close: true, Head: true}
	l := slices.Clone(r.Fields)
	for range 2 {
		respond.Check(r)
		respond.Text(r)
		respond.Text(api.Response{Code: 404, Fields: r.Fields[:1:1], Body: "b"})
		if !slices.Equal(r.Fields, l) {
			t.Errorf("%q", r.Fields)
		}
	}
	heads := []bool{false, true, false}
	respond.All(hi+hi[:38]+hi, heads)
	if !slices.Equal(heads, []bool{false, true, false}) {
		t.Error(heads)
	}
}
