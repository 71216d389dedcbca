package reqline_test

import (
	"math/rand"
	"slices"
	"sort"
	"strings"
	"testing"
	"unsafe"

	"waypost/api"
	"waypost/reqline"
)

// The limits of the parts.
const (
	mostMethod  = 16
	mostTarget  = 1024
	mostVersion = 512
)

// tokenMarks are the bytes, besides letters and digits, that tokens have.
const tokenMarks = "!#$%&'*+-.^_`|~"

// partsOf are the parts of a line: each space begins the next one, up to the third.
func partsOf(s string) []string {
	var parts []string
	from := 0
	for i := range len(s) {
		if s[i] == ' ' && len(parts) < 2 {
			parts = append(parts, s[from:i])
			from = i + 1
		}
	}
	return append(parts, s[from:])
}

// longOf is what Long should return: the first beginning of the line of which a part is too long has, as its last byte, the one that is too much.
func longOf(s string) (status, at int) {
	method, target, version, place := 0, 0, 0, 1
	for i := range len(s) {
		switch {
		case s[i] == ' ' && place < 3:
			place++
			continue
		case place == 1:
			method++
		case place == 2:
			target++
		default:
			version++
		}
		if method > mostMethod || version > mostVersion {
			return 400, i
		}
		if target > mostTarget {
			return 414, i
		}
	}
	return 0, len(s)
}

// isTokenByte returns whether tokens have this byte.
func isTokenByte(b byte) bool {
	return 'a' <= b && b <= 'z' || 'A' <= b && b <= 'Z' || '0' <= b && b <= '9' || strings.IndexByte(tokenMarks, b) >= 0
}

// isMethod returns whether s may be the method of a request line.
func isMethod(s string) bool {
	for i := range len(s) {
		if !isTokenByte(s[i]) {
			return false
		}
	}
	return 1 <= len(s) && len(s) <= mostMethod
}

// isTarget returns whether s may be the target of a request line.
func isTarget(s string) bool {
	for i := range len(s) {
		if s[i] <= 32 || s[i] >= 127 || s[i] == 35 {
			return false
		}
	}
	return len(s) >= 1 && s[0] == '/' && len(s) <= mostTarget
}

// isRequestLine returns whether s is a request line.
func isRequestLine(s string) bool {
	p := partsOf(s)
	return len(p) == 3 && isMethod(p[0]) && isTarget(p[1]) && p[2] == "HTTP/1.1"
}

// isBeginning returns whether s is the beginning of any request line: then one of a few texts makes it a whole one.
func isBeginning(s string) bool {
	const shortest = "M / HTTP/1.1"
	for from := range len(shortest) + 1 {
		if isRequestLine(s + shortest[from:]) {
			return true
		}
	}
	return false
}

// parseOf is what Parse should return.
func parseOf(s string) (api.ReqLine, int, int) {
	if status, at := longOf(s); status != 0 {
		return api.ReqLine{}, status, at
	}
	if isRequestLine(s) {
		p := partsOf(s)
		return api.ReqLine{Method: p[0], Target: p[1]}, 0, len(s)
	}
	// What begins with no beginning is none, so that the first such place can be searched.
	return api.ReqLine{}, 400, sort.Search(len(s), func(i int) bool { return !isBeginning(s[:i+1]) })
}

// check checks what the functions say of a line against the model.
func check(t *testing.T, s string) {
	t.Helper()
	method, target, version, n := reqline.Parts(s)
	parts := partsOf(s)
	if n != len(parts) || !slices.Equal([]string{method, target, version}, append(parts, "", "")[:3]) {
		t.Fatalf("parts of %.60q: %.60q %.60q %.60q %d", s, method, target, version, n)
	}
	wantStatus, wantAt := longOf(s)
	if status, at := reqline.Long(s); status != wantStatus || at != wantAt {
		t.Fatalf("%.60q (%d bytes) is long: %d %d, not %d %d", s, len(s), status, at, wantStatus, wantAt)
	}
	want, wantStatus, wantAt := parseOf(s)
	r, status, at := reqline.Parse(s)
	if r != want || status != wantStatus || at != wantAt {
		t.Fatalf("%.60q (%d bytes): %.60q %d %d, not %.60q %d %d", s, len(s), r, status, at, want, wantStatus, wantAt)
	}
}

// targetOf is what Target should return.
func targetOf(s string) api.Errno {
	if len(s) > mostTarget {
		return api.ErrLong
	}
	if !isTarget(s) {
		return api.ErrForm
	}
	return api.OK
}

// textOf is what Text should return.
func textOf(r api.ReqLine) (string, api.Errno) {
	if !isMethod(r.Method) {
		return "", api.ErrName
	}
	if e := targetOf(r.Target); e != api.OK {
		return "", e
	}
	return r.Method + " " + r.Target + " HTTP/1.1", api.OK
}

// checkText checks Text and Target against the model.
func checkText(t *testing.T, r api.ReqLine) {
	t.Helper()
	want, wantErr := textOf(r)
	if text, e := reqline.Text(r); text != want || e != wantErr {
		t.Fatalf("%.60q: %.60q %v, not %.60q %v", r, text, e, want, wantErr)
	}
	if e := reqline.Target(r.Target); e != targetOf(r.Target) {
		t.Fatalf("%.60q: %v", r.Target, e)
	}
}

// shortTexts are all strings of at most most bytes of an alphabet.
func shortTexts(alphabet string, most int) []string {
	l := []string{""}
	for from := 0; from < len(l) && len(l[from]) < most; from++ {
		for i := range len(alphabet) {
			l = append(l, l[from]+alphabet[i:i+1])
		}
	}
	return l
}

// letters is a text of n letters.
func letters(n int) string { return strings.Repeat("m", n) }

// path is a target of n bytes.
func path(n int) string { return "/" + strings.Repeat("x", n-1) }

// lines are request lines.
func lines() []string {
	return []string{
		"GET / HTTP/1.1",
		"GET /a?b HTTP/1.1",
		"M / HTTP/1.1",
		"m-1~ /%zz\"|~ HTTP/1.1",
		tokenMarks + "1 //?:@!$&'()*+,;=[]{}\\^`<> HTTP/1.1",
		letters(16) + " / HTTP/1.1",
		"GET " + path(1024) + " HTTP/1.1",
		letters(16) + " " + path(1024) + " HTTP/1.1",
		"HTTP /HTTP/1.1 HTTP/1.1",
	}
}

// samples are lines put together from pieces of request lines, and random bytes.
func samples(n int) []string {
	r := rand.New(rand.NewSource(1))
	pieces := []string{"GET", "POST", " ", " ", " ", "/", "/", "/a?b", "HTTP/1.1", "HTTP/1.1", "HTTP/1.0", "http/1.1", "#", "\"", "\t", "\r", "\n", "\x00", "\x7f", "\xff", "é", letters(8), letters(16), path(1023), path(511), strings.Repeat(" ", 300)}
	var l []string
	for range n {
		var b strings.Builder
		for range r.Intn(9) {
			b.WriteString(pieces[r.Intn(len(pieces))])
		}
		l = append(l, b.String())
		good := pieces[r.Intn(2)] + " " + pieces[5+r.Intn(3)] + " HTTP/1.1"
		at := r.Intn(len(good) + 1)
		l = append(l, good[:at]+pieces[r.Intn(len(pieces))]+good[at:], good[:at]+good[min(at+1, len(good)):])
	}
	return l
}

// isNew returns whether a result has memory of its own.
func isNew(result, argument string) bool {
	from := uintptr(unsafe.Pointer(unsafe.StringData(argument)))
	at := uintptr(unsafe.Pointer(unsafe.StringData(result)))
	return result == "" || at < from || at >= from+uintptr(len(argument))
}

// P8.1

func TestParts(t *testing.T) {
	for s, want := range map[string]struct {
		parts [3]string
		n     int
	}{
		"":          {[3]string{}, 1},
		"GET":       {[3]string{"GET"}, 1},
		"GET ":      {[3]string{"GET"}, 2},
		"GET /a":    {[3]string{"GET", "/a"}, 2},
		"GET /a ":   {[3]string{"GET", "/a"}, 3},
		"GET  /a":   {[3]string{"GET", "", "/a"}, 3},
		"a b c d":   {[3]string{"a", "b", "c d"}, 3},
		"a b c ":    {[3]string{"a", "b", "c "}, 3},
		" ":         {[3]string{}, 2},
		"  ":        {[3]string{}, 3},
		"   ":       {[3]string{"", "", " "}, 3},
		" a":        {[3]string{"", "a"}, 2},
		"  a":       {[3]string{"", "", "a"}, 3},
		"a\tb\nc d": {[3]string{"a\tb\nc", "d"}, 2},
		"\xff\x00":  {[3]string{"\xff\x00"}, 1},
	} {
		method, target, version, n := reqline.Parts(s)
		if [3]string{method, target, version} != want.parts || n != want.n {
			t.Errorf("%q: %q %q %q %d", s, method, target, version, n)
		}
	}
}

func TestLong(t *testing.T) {
	for i, c := range []struct {
		s          string
		status, at int
	}{
		{"", 0, 0},
		{" ", 0, 1},
		{letters(16), 0, 16},
		{letters(16) + " ", 0, 17},
		{letters(17), 400, 16},
		{letters(2000), 400, 16},
		{letters(17) + " " + letters(1025), 400, 16},
		{"G\"T" + letters(17), 400, 16},
		{"G " + letters(1024), 0, 1026},
		{"G " + letters(1025), 414, 1026},
		{"G  " + letters(1025), 400, 515},
		{" " + letters(1025), 414, 1025},
		{letters(16) + " " + letters(1025) + " " + letters(513), 414, 1041},
		{letters(16) + " " + letters(1024) + " " + letters(513), 400, 16 + 1 + 1024 + 1 + 512},
		{letters(16) + " " + letters(1024) + " " + letters(512), 0, 16 + 1 + 1024 + 1 + 512},
		{"G / " + letters(512), 0, 516},
		{"G / " + letters(513), 400, 516},
		{"G / " + strings.Repeat(" ", 512), 0, 516},
		{"G / " + strings.Repeat(" ", 513), 400, 516},
		{strings.Repeat(" ", 514), 0, 514},
		{strings.Repeat(" ", 515), 400, 514},
		{strings.Repeat("\n", 17), 400, 16},
	} {
		if status, at := reqline.Long(c.s); status != c.status || at != c.at {
			t.Errorf("%d: %d %d", i, status, at)
		}
		check(t, c.s)
	}
}

func TestPartsAreNew(t *testing.T) {
	for _, s := range []string{"GET /a HTTP/1.1", "GET", "GET /a", " /", "  a"} {
		method, target, version, _ := reqline.Parts(s)
		for _, part := range []string{method, target, version} {
			if !isNew(part, s) {
				t.Errorf("%q of %q", part, s)
			}
		}
	}
}

// P8.1 and P8.2

func TestShortTexts(t *testing.T) {
	for _, s := range shortTexts("G /#\"", 7) {
		check(t, s)
	}
	for _, s := range shortTexts(" H/1.T\x00", 5) {
		check(t, s)
		check(t, "GET /"+s)
		check(t, "GET /a HTTP/1"+s)
	}
}

// Every byte behind every beginning of a request line, in the place of each of its bytes, and between them.
func TestEveryByte(t *testing.T) {
	const good = "G0! /a?b HTTP/1.1"
	for at := range len(good) + 1 {
		for b := range 256 {
			s := string([]byte{byte(b)})
			check(t, good[:at]+s)
			check(t, good[:at]+s+good[at:])
			if at < len(good) {
				check(t, good[:at]+s+good[at+1:])
			}
		}
		check(t, good[:at])
		check(t, good[at:])
	}
}

func TestSamples(t *testing.T) {
	for _, s := range samples(1500) {
		check(t, s)
	}
}

// Parts about as long as their limits.
func TestLimits(t *testing.T) {
	for _, method := range []string{"", "G", letters(15), letters(16), letters(17), "\"" + letters(15), "\"" + letters(16)} {
		for _, target := range []string{"", "/", path(1023), path(1024), path(1025), letters(1024), letters(1025), path(1023) + "#", path(1024) + "#"} {
			for _, version := range []string{"", "HTTP/1.1", "HTTP/1.1 ", letters(511), letters(512), letters(513), strings.Repeat(" ", 512), strings.Repeat(" ", 513)} {
				check(t, method+" "+target+" "+version)
			}
			check(t, method+" "+target)
		}
		check(t, method)
	}
}

func TestLongLines(t *testing.T) {
	for _, s := range []string{"a", " ", "/", "\x00", "GET ", "GET / HTTP/1.1 "} {
		status, at := reqline.Long(strings.Repeat(s, 1000000))
		_, parsed, place := reqline.Parse(strings.Repeat(s, 1000000))
		wantStatus, wantAt := longOf(strings.Repeat(s, 3000))
		if wantStatus == 0 || status != wantStatus || at != wantAt || parsed != status || place != at {
			t.Errorf("%q: %d %d, %d %d", s, status, at, parsed, place)
		}
	}
}

// P8.2

func TestParse(t *testing.T) {
	for _, c := range []struct {
		s              string
		method, target string
		status, at     int
	}{
		{"GET /a?b HTTP/1.1", "GET", "/a?b", 0, 17},
		{"get / HTTP/1.1", "get", "/", 0, 14},
		{"GET //a/../b? HTTP/1.1", "GET", "//a/../b?", 0, 22},
		{"", "", "", 400, 0},
		{"G", "", "", 400, 1},
		{"GE", "", "", 400, 2},
		{"GET ", "", "", 400, 4},
		{"GET /", "", "", 400, 5},
		{"GET /a", "", "", 400, 6},
		{"GET / ", "", "", 400, 6},
		{"GET / H", "", "", 400, 7},
		{"GET / HTTP/1.", "", "", 400, 13},
		{"GET / HTTP/1.0", "", "", 400, 13},
		{"GET / HTTP/2.0", "", "", 400, 11},
		{"GET / http/1.1", "", "", 400, 6},
		{"GET /a HTTP/1.0", "", "", 400, 14},
		{"GET / HTTP/1.1 ", "", "", 400, 14},
		{"GET / HTTP/1.11", "", "", 400, 14},
		{"GET / HTTP/1.1\r", "", "", 400, 14},
		{"GET / HTTP/1.1\r\n", "", "", 400, 14},
		{" GET / HTTP/1.1", "", "", 400, 0},
		{"GET  /a HTTP/1.1", "", "", 400, 4},
		{"GET /  HTTP/1.1", "", "", 400, 6},
		{"GET a HTTP/1.1", "", "", 400, 4},
		{"GET * HTTP/1.1", "", "", 400, 4},
		{"GET http://a/ HTTP/1.1", "", "", 400, 4},
		{"G\"T / HTTP/1.1", "", "", 400, 1},
		{"G\"T a", "", "", 400, 1},
		{"G/T / HTTP/1.1", "", "", 400, 1},
		{"GET /a#b HTTP/1.1", "", "", 400, 6},
		{"GET /a#b HTTP/1.0", "", "", 400, 6},
		{"GET /\x7f HTTP/1.1", "", "", 400, 5},
		{"GET /\x80 HTTP/1.1", "", "", 400, 5},
		{"GET /\x1f HTTP/1.1", "", "", 400, 5},
		{"GET\t/ HTTP/1.1", "", "", 400, 3},
		{"GET /\t HTTP/1.1", "", "", 400, 5},
		{"GET /\tHTTP/1.1", "", "", 400, 5},
		{letters(17), "", "", 400, 16},
		{"G\"T" + letters(17), "", "", 400, 16},
		{"GET " + path(1025) + " HTTP/1.1", "", "", 414, 1028},
		{"GET " + path(1024) + " HTTP/1.1", "GET", path(1024), 0, 4 + 1024 + 9},
		{"G\" " + path(1025), "", "", 414, 1027},
		{"G\" / " + letters(513), "", "", 400, 517},
		{"G\" / " + letters(512), "", "", 400, 1},
	} {
		r, status, at := reqline.Parse(c.s)
		if r != (api.ReqLine{Method: c.method, Target: c.target}) || status != c.status || at != c.at {
			t.Errorf("%.60q: %.60q %d %d", c.s, r, status, at)
		}
		check(t, c.s)
	}
}

func TestParseIsNew(t *testing.T) {
	for _, s := range lines() {
		r, _, _ := reqline.Parse(s)
		if r.Method == "" || r.Target == "" || !isNew(r.Method, s) || !isNew(r.Target, s) {
			t.Errorf("%.60q", s)
		}
	}
}

// P8.3

func TestTarget(t *testing.T) {
	for s, want := range map[string]api.Errno{
		"":                   api.ErrForm,
		"/":                  api.OK,
		"//":                 api.OK,
		"/a?b=%zz&c":         api.OK,
		"/!\"$%&'()*+,-./0:": api.OK,
		"/;<=>?@[\\]^_`{|}~": api.OK,
		"a":                  api.ErrForm,
		"*":                  api.ErrForm,
		"?":                  api.ErrForm,
		" /":                 api.ErrForm,
		"/ ":                 api.ErrForm,
		"/a b":               api.ErrForm,
		"/#":                 api.ErrForm,
		"/\x00":              api.ErrForm,
		"/\x7f":              api.ErrForm,
		"/é":                 api.ErrForm,
		path(1023):           api.OK,
		path(1024):           api.OK,
		path(1025):           api.ErrLong,
		path(1023) + "#":     api.ErrForm,
		path(1024) + "#":     api.ErrLong,
		letters(1024):        api.ErrForm,
		letters(1025):        api.ErrLong,
	} {
		if e := reqline.Target(s); e != want {
			t.Errorf("%.60q: %v", s, e)
		}
	}
	for b := range 256 {
		s := string([]byte{byte(b)})
		for _, target := range []string{s, "/" + s, s + "/", "/a" + s + "b"} {
			checkText(t, api.ReqLine{Method: "GET", Target: target})
			checkText(t, api.ReqLine{Method: s, Target: target})
			checkText(t, api.ReqLine{Method: "G" + s + "T", Target: target})
		}
	}
}

func TestText(t *testing.T) {
	for _, c := range []struct {
		method, target, want string
		e                    api.Errno
	}{
		{"GET", "/", "GET / HTTP/1.1", api.OK},
		{"!", "/a?", "! /a? HTTP/1.1", api.OK},
		{letters(16), "/", letters(16) + " / HTTP/1.1", api.OK},
		{"GET", path(1024), "GET " + path(1024) + " HTTP/1.1", api.OK},
		{letters(17), "/", "", api.ErrName},
		{"", "/", "", api.ErrName},
		{"", "", "", api.ErrName},
		{"G T", "/", "", api.ErrName},
		{"G T", "a", "", api.ErrName},
		{"GET ", path(1025), "", api.ErrName},
		{"GET", "a", "", api.ErrForm},
		{"GET", "", "", api.ErrForm},
		{"GET", "/a b", "", api.ErrForm},
		{"GET", "/\r\n", "", api.ErrForm},
		{"GET", path(1025), "", api.ErrLong},
		{"GET", strings.Repeat("#", 1025), "", api.ErrLong},
	} {
		r := api.ReqLine{Method: c.method, Target: c.target}
		if text, e := reqline.Text(r); text != c.want || e != c.e {
			t.Errorf("%.60q: %.60q %v", r, text, e)
		}
	}
	for _, method := range shortTexts("G /\"", 3) {
		for _, target := range shortTexts("a/ #", 3) {
			checkText(t, api.ReqLine{Method: method, Target: target})
		}
	}
}

func TestKnown(t *testing.T) {
	for s, want := range map[string]int{"GET": 1, "HEAD": 2, "POST": 3, "get": 0, "Head": 0, "PUT": 0, "": 0, "GET ": 0, " GET": 0, "GE": 0, "GETHEAD": 0, "OPTIONS": 0, letters(100000): 0} {
		if n, is := reqline.Known(s); n != want || is != (want > 0) {
			t.Errorf("%.60q: %d %v", s, n, is)
		}
	}
}

// P8.4

func TestLongStaysLong(t *testing.T) {
	tails := []string{"", " ", "a", "  ", " /", "\n", " HTTP/1.1", letters(600), letters(2000), " " + path(1025), strings.Repeat(" ", 600)}
	for _, s := range append(samples(300), letters(17), "G "+path(1025), "G / "+letters(513), "  "+letters(513)) {
		status, at := reqline.Long(s)
		for _, tail := range tails {
			again, place := reqline.Long(s + tail)
			if status != 0 && (again != status || place != at) {
				t.Fatalf("%.60q and %.60q: %d %d, not %d %d", s, tail, again, place, status, at)
			}
		}
		if status != 0 {
			if before, _ := reqline.Long(s[:at]); before != 0 {
				t.Fatalf("%.60q is long before %d", s, at)
			}
			s = s[:at]
		}
		for end := range len(s) + 1 {
			if status, at := reqline.Long(s[:end]); status != 0 || at != end {
				t.Fatalf("%.60q up to %d: %d %d", s, end, status, at)
			}
		}
	}
}

// P8.5

func TestParseOfText(t *testing.T) {
	for _, s := range append(samples(1500), lines()...) {
		r, status, at := reqline.Parse(s)
		if status == 0 {
			if text, e := reqline.Text(r); text != s || e != api.OK || at != len(s) {
				t.Fatalf("%.60q: %.60q %v", s, text, e)
			}
		}
	}
	for _, s := range lines() {
		if _, status, _ := reqline.Parse(s); status != 0 {
			t.Errorf("%.60q: %d", s, status)
		}
	}
	for _, method := range []string{"GET", "a", tokenMarks, letters(16)} {
		for _, target := range []string{"/", "/?", "/a/b?c", path(1024)} {
			want := api.ReqLine{Method: method, Target: target}
			text, _ := reqline.Text(want)
			if r, status, at := reqline.Parse(text); r != want || status != 0 || at != len(text) {
				t.Errorf("%.60q: %.60q %d %d", text, r, status, at)
			}
		}
	}
}

// P8.6

func TestPlaceOfFault(t *testing.T) {
	for _, s := range samples(1500) {
		_, status, at := reqline.Parse(s)
		if at < 0 || at > len(s) {
			t.Fatalf("%.60q: %d", s, at)
		}
		if long, _ := reqline.Long(s); long == 0 && status != 0 {
			if !isBeginning(s[:at]) || at < len(s) && isBeginning(s[:at+1]) {
				t.Fatalf("%.60q: %d", s, at)
			}
			if _, _, again := reqline.Parse(s[:at]); again != at {
				t.Fatalf("%.60q up to %d: %d", s, at, again)
			}
		}
	}
}

// P8.7

func TestPartsAreTheLine(t *testing.T) {
	for _, s := range append(samples(1500), shortTexts("a /", 6)...) {
		method, target, version, n := reqline.Parts(s)
		parts := []string{method, target, version}
		if strings.Join(parts[:n], " ") != s || strings.Join(parts[n:], "") != "" {
			t.Fatalf("%.60q: %.60q", s, parts)
		}
	}
}
