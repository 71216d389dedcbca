package target_test

import (
	"fmt"
	"math"
	"math/rand"
	"regexp"
	"slices"
	"strconv"
	"strings"
	"testing"
	"unsafe"

	"waypost/api"
	"waypost/target"
)

// The models follow the chapter's Terms, and those of the chapters on which it builds: targets are expressions over whole texts in them, and paths are texts, never lists.

var (
	// targetForm is a target: its raw path and its query.
	targetForm = regexp.MustCompile(`\A(/[!"$->@-~]*)(?:\?([!"$-~]*))?\z`)
	// encodedForm is a raw path that is encoded as it should be.
	encodedForm = regexp.MustCompile(`\A(?:[^%]|%[0-9A-Fa-f]{2})*\z`)
	escapeForm  = regexp.MustCompile(`%[0-9A-Fa-f]{2}`)
	safeForm    = regexp.MustCompile(`\A[^\x00\n\r]*\z`)
	charForm    = regexp.MustCompile(`\A[!"$-~]\z`)
	stayForm    = regexp.MustCompile(`\A[a-zA-Z0-9\-._~!$&'()*+,;=:@/]\z`)
	queryForm   = regexp.MustCompile(`\A[!"$-~]*\z`)
)

// place is where a target leads.
type place struct {
	path, query string
}

// splitOf is what Split should return.
func splitOf(s string) (raw, query string, err api.Errno) {
	if len(s) > 1024 {
		return "", "", api.ErrLong
	}
	found := targetForm.FindStringSubmatch(s)
	if found == nil {
		return "", "", api.ErrForm
	}
	return found[1], found[2], api.OK
}

// decodeOf is what an encoded string says.
func decodeOf(s string) string {
	return escapeForm.ReplaceAllStringFunc(s, func(escape string) string {
		n, err := strconv.ParseUint(escape[1:], 16, 8)
		if err != nil {
			panic(escape)
		}
		return string([]byte{byte(n)})
	})
}

// encodeOf is the canonical encoding of a path.
func encodeOf(s string) string {
	var b strings.Builder
	for i := range len(s) {
		if one := s[i : i+1]; stayForm.MatchString(one) {
			b.WriteString(one)
		} else {
			fmt.Fprintf(&b, "%%%02X", one)
		}
	}
	return b.String()
}

// cleanOf is the path without dot segments, or none: it rewrites the text until there is nothing left to rewrite.
func cleanOf(p string) (string, bool) {
	open := strings.HasSuffix(p, "/") || strings.HasSuffix(p, "/.") || strings.HasSuffix(p, "/..")
	p += "/"
	for strings.Contains(p, "//") || strings.Contains(p, "/./") {
		p = strings.ReplaceAll(strings.ReplaceAll(p, "//", "/"), "/./", "/")
	}
	for {
		before, behind, is := strings.Cut(p, "/../")
		if !is {
			break
		}
		if before == "" {
			return "", false
		}
		p = before[:strings.LastIndex(before, "/")] + "/" + behind
	}
	if !open && p != "/" {
		p = p[:len(p)-1]
	}
	return p, true
}

// parseOf is what Parse and Why should return.
func parseOf(s string, limit int) (place, api.Errno, int) {
	if limit <= 0 || limit > 128 {
		return place{}, api.ErrRange, 0
	}
	raw, query, e := splitOf(s)
	if e == api.ErrLong {
		return place{}, e, 414
	}
	said := decodeOf(raw)
	if e != api.OK || !encodedForm.MatchString(raw) || !safeForm.MatchString(said) {
		return place{}, api.ErrForm, 400
	}
	path, is := cleanOf(said)
	switch {
	case !is:
		return place{}, api.ErrDots, 400
	case len(path) > limit, len(query) > 128:
		return place{}, api.ErrLong, 414
	}
	return place{path, query}, api.OK, 200
}

// isNormal is whether p is a normal path.
func isNormal(p string) bool {
	ended := p + "/"
	return len(p) <= 128 && strings.HasPrefix(p, "/") && !strings.Contains(p, "//") && !strings.Contains(ended, "/./") && !strings.Contains(ended, "/../")
}

// isQuery is whether s may be the query of a canonical target, or stand for none.
func isQuery(s string) bool {
	return len(s) <= 128 && queryForm.MatchString(s)
}

// textOf is what Text should return.
func textOf(p place) (string, api.Errno) {
	switch {
	case !isNormal(p.path):
		return "", api.ErrDots
	case len(p.query) > 128:
		return "", api.ErrLong
	case !isQuery(p.query):
		return "", api.ErrForm
	case p.query == "":
		return encodeOf(p.path), api.OK
	}
	return encodeOf(p.path) + "?" + p.query, api.OK
}

// canonicalOf is what Canonical should return.
func canonicalOf(s string) (string, api.Errno) {
	p, e, _ := parseOf(s, 128)
	if e != api.OK {
		return "", e
	}
	return textOf(p)
}

// sameOf is what Same should return.
func sameOf(a, b string) (bool, api.Errno) {
	one, e, _ := parseOf(a, 128)
	two, f, _ := parseOf(b, 128)
	switch {
	case e != api.OK:
		return false, e
	case f != api.OK:
		return false, f
	}
	return one.path == two.path && one.query == two.query, api.OK
}

// check checks all that is said of one string against the models.
func check(t *testing.T, s string) {
	t.Helper()
	wantRaw, wantQuery, wantErr := splitOf(s)
	if raw, query, e := target.Split(s); raw != wantRaw || query != wantQuery || e != wantErr {
		t.Fatalf("%.200q: split %.80q %.80q %v, not %.80q %.80q %v", s, raw, query, e, wantRaw, wantQuery, wantErr)
	}
	want, wantErr := canonicalOf(s)
	if text, e := target.Canonical(s); text != want || e != wantErr {
		t.Fatalf("%.200q: canonical %.200q %v, not %.200q %v", s, text, e, want, wantErr)
	}
	p, _, _ := parseOf(s, 128)
	for _, limit := range []int{0, 1, 2, 3, 127, 128, 129, len(p.path) - 1, len(p.path)} {
		checkParse(t, s, limit)
	}
}

// checkParse checks Parse and Why against the model.
func checkParse(t *testing.T, s string, limit int) {
	t.Helper()
	want, wantErr, wantStatus := parseOf(s, limit)
	if path, query, status := target.Parse(s, limit); (place{path, query}) != want || status != wantStatus {
		t.Fatalf("%.200q, %d: %.80q %.80q %d, not %.80q %d", s, limit, path, query, status, want, wantStatus)
	}
	if e, status := target.Why(s, limit); e != wantErr || status != wantStatus {
		t.Fatalf("%.200q, %d: %v %d, not %v %d", s, limit, e, status, wantErr, wantStatus)
	}
}

// checkText checks Text against the model, and what is said of the target that it returns.
func checkText(t *testing.T, path, query string) {
	t.Helper()
	want, wantErr := textOf(place{path, query})
	s, e := target.Text(path, query)
	if s != want || e != wantErr {
		t.Fatalf("%.200q %.200q: %.200q %v, not %.200q %v", path, query, s, e, want, wantErr)
	}
	if e == api.OK {
		check(t, s)
	}
}

// checkSame checks Same against the model.
func checkSame(t *testing.T, a, b string) {
	t.Helper()
	want, wantErr := sameOf(a, b)
	if is, e := target.Same(a, b); is != want || e != wantErr {
		t.Fatalf("%.200q, %.200q: %v %v, not %v %v", a, b, is, e, want, wantErr)
	}
}

// shortTexts are all strings of at most most bytes of an alphabet.
func shortTexts(alphabet string, most int) []string {
	return shortJoined(strings.Split(alphabet, ""), most)
}

// shortJoined are all strings of at most most pieces.
func shortJoined(pieces []string, most int) []string {
	l, from := []string{""}, 0
	for range most {
		longest := l[from:]
		from = len(l)
		for _, s := range longest {
			for _, piece := range pieces {
				l = append(l, s+piece)
			}
		}
	}
	return l
}

// only are those strings of which is holds.
func only(l []string, is func(string) bool) []string {
	return slices.DeleteFunc(slices.Clone(l), func(s string) bool { return !is(s) })
}

// isGood is whether s is a target without an error.
func isGood(s string) bool {
	_, e, _ := parseOf(s, 128)
	return e == api.OK
}

// limits are numbers about the limits of paths, and extreme ones.
func limits() []int {
	l := []int{math.MinInt, math.MinInt32, -1025, -129, -128, math.MaxInt, math.MaxInt32, math.MaxUint32, 1 << 32, 1<<32 + 1, 255, 256, 257, 1023, 1024, 1025}
	for n := -3; n <= 132; n++ {
		l = append(l, n)
	}
	return l
}

// paths are strings that are normal paths, and others.
func paths() []string {
	long := "/" + strings.Repeat("b", 127)
	return []string{"/", "/a", "/a/", "/a/b", "/x y", "/%", "/%41", "/%2F", "/a?b", "/a#b", "/\x00\r\n", "/\n", "/\r", "/é", "/\xff", "/.a", "/..a", "/a./b../", "/...", "/-._~!$&'()*+,;=:@/", "/\"<>[]\\^`{|}", long, long[:127] + "/", "/" + strings.Repeat("%", 127), "/" + strings.Repeat("/b", 63)[1:],
		"", "a", "x/", ".", "..", "//", "/a//b", "/a//", "//a", "/.", "/..", "/./", "/a/./b", "/a/../b", "/a/.", "/a/..", " /", "?", "\x00", long[:126] + "//", long[:126] + "/.", long[:125] + "/..",
		long + "b", long + "/", long + "//", strings.Repeat("/", 129), strings.Repeat("b", 129), strings.Repeat("/b", 1<<12)}
}

// queries are strings that may be queries, and others.
func queries() []string {
	long := strings.Repeat("q", 128)
	return []string{"", "q", "q=1%20", "?", "a?b", "%", "%4", "%00", "/", "//..", "&&", "!\"$~", "http://a/", long, strings.Repeat("?", 128), strings.Repeat("%", 128),
		" ", "#", "q q", "a#", "#a", "a#b", "\x00", "\r\n", "\x1f", "\x7f", "\x80", "é", "\xff", long[:127] + "#", long[:127] + " ",
		long + "q", long + "#", long + " ", strings.Repeat("#", 129), strings.Repeat("q", 1<<12)}
}

// everyByte are strings with every byte at several places.
func everyByte() []string {
	var l []string
	for b := range 256 {
		one := string([]byte{byte(b)})
		for _, form := range []string{"#", "#a", "#/", "#/a", "/#", "/#a", "/a#", "/a#b", "/##", "/a/#/b", "/.#", "/.#/", "/#.", "/..#", "/a/..#", "/%#", "/%#0", "/%2#", "/%4#b", "/%C#/", "/%#A", "/a?#", "/?#", "/?q#r", "/a?%#", "/b#?q", "/#?", "/?#?", "/#?#", "/../#", "/%/#", "/%00#", "a#", "?#", "/a#/../.."} {
			l = append(l, strings.ReplaceAll(form, "#", one))
		}
	}
	return l
}

// everyEscape are texts with an escape of every byte, its digits in each case.
func everyEscape() []string {
	var l []string
	for b := range 256 {
		upper, lower := fmt.Sprintf("%%%02X", b), fmt.Sprintf("%%%02x", b)
		for _, escape := range []string{upper, lower, upper[:2] + lower[2:], lower[:2] + upper[2:]} {
			for _, form := range []string{"#", "#/", "/#", "/#a", "/a#", "/a#b", "/##", "/a/#/b", "/.#", "/#.", "/#./", "/a/#./b", "/a/.#/b", "/..#", "/#..", "/a#/../b", "/?#", "/a#?#", "/a?#b", "/../#", "/#/..", "/#/../..", "/%#", "/#%", "/%25#"} {
				l = append(l, strings.ReplaceAll(form, "#", escape))
			}
		}
	}
	return l
}

// faults are targets with each error together with each other one: a beginning, a middle of the raw path, its end, and a query.
func faults() []string {
	long := strings.Repeat("a", 126)
	var l []string
	for _, begin := range []string{"/", "", "a/", "/../", "/%2e%2E/", "/a/../../"} {
		for _, middle := range []string{"", "b", " ", "\xff", "#", "%", "%4", "%zz", "%00", "%0a", "%0D", "%25", "b/..", "b/../..", long, long + "c", long + "cd", strings.Repeat(long, 8)} {
			for _, end := range []string{"", "d", "/", "/.", "/..", "/../..", "%", "%00", "\r", "#", strings.Repeat("/", 150), strings.Repeat("e", 1024-len(long))} {
				for _, query := range []string{"", "?", "?q", "? ", "?#", "?%", "?" + long + "ab", "?" + long + "abc", "?" + strings.Repeat("q", 900), "?" + strings.Repeat("#", 129), "?" + strings.Repeat("q", 1024)} {
					l = append(l, begin+middle+end+query)
				}
			}
		}
	}
	return l
}

// ofLengths are texts about as long as each limit of a target: in all, the path before and behind its change, and the query.
func ofLengths() []string {
	var l []string
	for _, n := range []int{1, 2, 3, 126, 127, 128, 129, 130, 255, 256, 257, 383, 384, 385, 768, 1020, 1021, 1022, 1023, 1024, 1025, 1026, 1100, 2048} {
		for _, s := range []string{"/a", "/", "/ab/", "/aaaaaaaaaaaaaaaaaaaaaaaaaaaaaaaaaaaaaaaaaaaaaaaaaaaaaaaaaaaaaaaaaaaaaaaaaaaaaaaaaaaaaaaaaaaaaaaaaaaaaaaaaaaaaaaaaaaaaaaaaaaaaaaaaaaaa", "/a/../", "/./", "/%61", "/%2F", "/%2e/", "/%", "/\xff", "/..", "%20", "a", "/?", "/?q", "/%3f"} {
			text := strings.Repeat(s, n)[:n]
			l = append(l, text, text[:n-1]+"z", text[:n-1]+"/", text[:n-1]+"#", "/"+text, text+"?", text+"?q", "/b/../"+text)
		}
		for _, s := range []string{"q", "?", "%", "/..", "#", " ", "&="} {
			query := strings.Repeat(s, n)[:n]
			for _, path := range []string{"/", "/a", "/" + strings.Repeat("b", 127), "/" + strings.Repeat("b", 128), "/..", "/%", "b", "/" + strings.Repeat("%62", 127), "/" + strings.Repeat("%20", 128)} {
				l = append(l, path+"?"+query, path+"?"+query[:n-1]+"~", path+"?"+query[:n-1]+"#")
			}
		}
		for _, s := range []string{"c", "%63", "/.", "c/../", "/"} {
			path := "/" + strings.Repeat(s, n) + "d"
			l = append(l, path, path+"?"+strings.Repeat("q", 128), path+"?"+strings.Repeat("q", 129))
		}
	}
	return l
}

// piece is one of the pieces, or, now and then, any byte.
func piece(r *rand.Rand, pieces ...string) string {
	if r.Intn(60) == 0 {
		return string([]byte{byte(r.Intn(256))})
	}
	return pieces[r.Intn(len(pieces))]
}

// several are a few pieces, one behind the other.
func several(r *rand.Rand, most int, pieces ...string) string {
	var b strings.Builder
	for range r.Intn(most + 1) {
		b.WriteString(piece(r, pieces...))
	}
	return b.String()
}

// samples are random strings that are put together from pieces.
func samples(n int) []string {
	r := rand.New(rand.NewSource(18))
	var l []string
	for range n {
		s := piece(r, "/", "/", "/", "/", "/", "/", "/", "/", "//", "", "?")
		s += several(r, 8, "a", "b/", "c", "/d", ".e", "f.", "%20", "%25", "%3F", "%ff", "-_~", "!$&'()*+,;=:@", "g/h", "%C3%A9", "%41", "%2f", "%2F", ".", "/..", "/../", "/./", "%2e", "x/%2E%2e/", "//", "/a/", "/a/", "/b/", "<>\"", "abcdefghijklmnop", "%")
		if r.Intn(2) == 0 {
			s += "?" + several(r, 6, "q", "=1", "&", "?", "%", "%20", "/", "..", "\"", "~", "x=y")
		}
		l = append(l, s)
	}
	return l
}

// randomPlaces are random paths and queries, most of them those of a canonical target.
func randomPlaces(n int) []place {
	r := rand.New(rand.NewSource(81))
	var l []place
	for range n {
		l = append(l, place{
			path:  "/" + several(r, 6, "a", "b/", "c", "/d", " ", "%", "%41", "%2F", "?", "#", "\x00", "\r", "\n", "é", "\xff", ".e", "f.", "~!", "g/", "x", "\"", "..x", "h", "/.", "jklmnopqrst"),
			query: several(r, 5, "q", "=1", "&", "?", "%", "%20", "/", "\"", "~", "x=y", "1", "a", "b", ";", " "),
		})
	}
	return l
}

// isNew returns whether a result has memory of its own.
func isNew(result, argument string) bool {
	from := uintptr(unsafe.Pointer(unsafe.StringData(argument)))
	at := uintptr(unsafe.Pointer(unsafe.StringData(result)))
	return result == "" || at < from || at >= from+uintptr(len(argument))
}
