package location_test

import (
	"fmt"
	"math/rand"
	"regexp"
	"slices"
	"strconv"
	"strings"
	"testing"
	"unsafe"

	"waypost/api"
	"waypost/location"
)

// The models follow the chapter's Terms, and those of the chapters on which it builds, by expressions over whole texts.

const (
	// stays is what the bytes that stay look like, within brackets.
	stays = `a-zA-Z0-9\-._~!$&'()*+,;=:@/`
	// label is a label of a name in lower case.
	label = `[a-z0-9](?:[a-z0-9-]{0,61}[a-z0-9])?`
	// segment is a segment of a path: no dot segment.
	segment = `(?:[^/.]|\.[^/.]|\.\.[^/])[^/]*`
	// queried is what the bytes of a query look like, within brackets.
	queried = `"!$-~`
)

var (
	stayForm     = regexp.MustCompile(`\A[` + stays + `]\z`)
	hostForm     = regexp.MustCompile(`\A` + label + `(?:\.` + label + `)*(?::([1-9][0-9]{0,4}))?\z`)
	pathForm     = regexp.MustCompile(`\A(?:/` + segment + `)*/?\z`)
	queryForm    = regexp.MustCompile(`\A[` + queried + `]*\z`)
	locationForm = regexp.MustCompile(`\Ahttp://([^/?]*)(/(?:[` + stays + `]|%[0-9A-F]{2})*)(?:\?([` + queried + `]+))?\z`)
	escapeForm   = regexp.MustCompile(`%[0-9A-F]{2}`)
	safeForm     = regexp.MustCompile(`\A[^\x00\n\r]*\z`)
)

// hostOf is OK if that is a normal host, otherwise ErrName.
func hostOf(s string) api.Errno {
	parts := hostForm.FindStringSubmatch(s)
	if parts == nil || len(s) > 64 || parts[1] == "80" || len(parts[1]) == 5 && parts[1] > "65535" {
		return api.ErrName
	}
	return api.OK
}

// pathOf is the error of Build because of a path.
func pathOf(s string) api.Errno {
	switch {
	case len(s) > 128:
		return api.ErrLong
	case s == "" || !pathForm.MatchString(s):
		return api.ErrDots
	}
	return api.OK
}

// queryOf is what Query should return.
func queryOf(s string) (bool, api.Errno) {
	if len(s) > 128 {
		return false, api.ErrLong
	}
	return queryForm.MatchString(s), api.OK
}

// encodeOf is the canonical encoding of a path.
func encodeOf(s string) string {
	var b strings.Builder
	for i := range len(s) {
		if one := s[i : i+1]; stayForm.MatchString(one) {
			b.WriteString(one)
		} else {
			fmt.Fprintf(&b, "%%%02X", one)
		}
	}
	return b.String()
}

// decodeOf is what a canonical encoding says.
func decodeOf(s string) string {
	return escapeForm.ReplaceAllStringFunc(s, func(escape string) string {
		n, err := strconv.ParseUint(escape[1:], 16, 8)
		if err != nil {
			panic(escape)
		}
		return string([]byte{byte(n)})
	})
}

// buildOf is what Build should return.
func buildOf(host, path, query string) (string, api.Errno) {
	if e := hostOf(host); e != api.OK {
		return "", e
	}
	if e := pathOf(path); e != api.OK {
		return "", e
	}
	may, e := queryOf(query)
	switch {
	case e != api.OK:
		return "", e
	case !may:
		return "", api.ErrForm
	case query != "":
		query = "?" + query
	}
	return "http://" + host + encodeOf(path) + query, api.OK
}

// parts are what a Location consists of.
type parts struct {
	host, path, query string
}

// splitOf is what Split should return.
func splitOf(s string) (parts, api.Errno) {
	found := locationForm.FindStringSubmatch(s)
	if found == nil {
		return parts{}, api.ErrForm
	}
	p := parts{found[1], decodeOf(found[2]), found[3]}
	if hostOf(p.host) != api.OK || pathOf(p.path) != api.OK || encodeOf(p.path) != found[2] || len(p.query) > 128 {
		return parts{}, api.ErrForm
	}
	return p, api.OK
}

// ownOf is what Own should return.
func ownOf(s, host string) (bool, api.Errno) {
	p, e := splitOf(s)
	if e == api.OK {
		e = hostOf(host)
	}
	return e == api.OK && p.host == host, e
}

// check checks all that is said of one string against the models.
func check(t *testing.T, s string) {
	t.Helper()
	want, wantErr := splitOf(s)
	if host, path, query, e := location.Split(s); (parts{host, path, query}) != want || e != wantErr {
		t.Fatalf("%.200q: split %.80q %.80q %.80q %v, not %.80v %v", s, host, path, query, e, want, wantErr)
	}
	for _, host := range []string{want.host, "a", "a.b", "A", "", "c"} {
		checkOwn(t, s, host)
	}
	if is, want := location.Safe(s), safeForm.MatchString(s); is != want {
		t.Fatalf("%.200q: safe %v, not %v", s, is, want)
	}
	may, wantErr := queryOf(s)
	if is, e := location.Query(s); is != may || e != wantErr {
		t.Fatalf("%.200q: query %v %v, not %v %v", s, is, e, may, wantErr)
	}
}

// checkOwn checks Own against the model.
func checkOwn(t *testing.T, s, host string) {
	t.Helper()
	want, wantErr := ownOf(s, host)
	if is, e := location.Own(s, host); is != want || e != wantErr {
		t.Fatalf("%.200q: leads to %.80q %v %v, not %v %v", s, host, is, e, want, wantErr)
	}
}

// checkBuild checks Build against the model, and what is said of the Location that it returns.
func checkBuild(t *testing.T, p parts) {
	t.Helper()
	want, wantErr := buildOf(p.host, p.path, p.query)
	s, e := location.Build(p.host, p.path, p.query)
	if s != want || e != wantErr {
		t.Fatalf("%.200v: built %.200q %v, not %.200q %v", p, s, e, want, wantErr)
	}
	if e == api.OK {
		check(t, s)
	}
}

// shortTexts are all strings of at most most bytes of an alphabet.
func shortTexts(alphabet string, most int) []string {
	return shortJoined(strings.Split(alphabet, ""), most)
}

// shortJoined are all strings of at most most pieces.
func shortJoined(pieces []string, most int) []string {
	l, from := []string{""}, 0
	for range most {
		longest := l[from:]
		from = len(l)
		for _, s := range longest {
			for _, piece := range pieces {
				l = append(l, s+piece)
			}
		}
	}
	return l
}

// only are those strings of which is holds.
func only(l []string, is func(string) bool) []string {
	return slices.DeleteFunc(slices.Clone(l), func(s string) bool { return !is(s) })
}

// isHost is whether s is a normal host.
func isHost(s string) bool {
	return hostOf(s) == api.OK
}

// isPath is whether s may be the path of a Location.
func isPath(s string) bool {
	return pathOf(s) == api.OK
}

// isQuery is whether s may be the query of a Location, or stand for none.
func isQuery(s string) bool {
	is, _ := queryOf(s)
	return is
}

// isLocation is whether s is a Location.
func isLocation(s string) bool {
	_, e := splitOf(s)
	return e == api.OK
}

// hosts are strings that are normal hosts, and others.
func hosts() []string {
	long := strings.Repeat("a", 63)
	return []string{"a", "a.b", "c", "a-b.c", "xn--a", "1.2.3.4", "a:1", "a:81", "a:800", "a:8", "a:65535", long, long[:62] + ".a", long[:59] + ":8080",
		"", "A", "a.B", "a:80", "a:080", "a:081", "a:0", "a:65536", "a:123456", "a:", "a:x", ":1", ".", "a.", ".a", "a..b", "-a", "a-", "a_b", "a b", "a/b", "a?b", "a#b", "a@b", "a\r\n", "a\x00", "é", "[::1]", "http://a",
		long + "a", long + ".a", long + ".b", long[:60] + ":8080", long[:61] + ":080", strings.Repeat("a.", 32) + "b", strings.Repeat("a", 1<<12)}
}

// paths are strings that are normal paths, and others.
func paths() []string {
	long := "/" + strings.Repeat("b", 127)
	return []string{"/", "/a", "/a/", "/a/b", "/x y", "/%", "/%41", "/%2F", "/a?b", "/a#b", "/\x00\r\n", "/é", "/\xff", "/.a", "/..a", "/a./b../", "/...", "/-._~!$&'()*+,;=:@/", "/\"<>[]\\^`{|}", long, long[:127] + "/", "/" + strings.Repeat("%", 127),
		"", "a", "x/", ".", "..", "//", "/a//b", "/a//", "//a", "/.", "/..", "/./", "/a/./b", "/a/../b", "/a/.", "/a/..", " /", "?", "\x00", long[:126] + "//", long[:126] + "/.", long[:125] + "/..",
		long + "b", long + "/", long + "//", strings.Repeat("/", 129), strings.Repeat("b", 129), strings.Repeat("/b", 1<<12)}
}

// queries are strings that may be queries, and others.
func queries() []string {
	long := strings.Repeat("q", 128)
	return []string{"", "q", "q=1%20", "?", "a?b", "%", "%4", "/", "//..", "&&", "!\"$~", "http://a/", long, strings.Repeat("?", 128), strings.Repeat("%", 128),
		" ", "#", "q q", "a#", "#a", "a#b", "\x00", "\r\n", "\x1f", "\x7f", "\x80", "é", "\xff", long[:127] + "#", long[:127] + " ",
		long + "q", long + "#", long + " ", strings.Repeat("#", 129), strings.Repeat("q", 1<<12)}
}

// wrong are strings that are nearly Locations.
func wrong() []string {
	return []string{"", "/", "/a", "a", "http", "http:", "http:/", "http://", "http:///", "http:////", "http://a", "http://a.b", "http://?", "http://a?", "http://a?q", "http://a?/", "http:///?q", "http://a?q/b", "http:///a", "http:a/", "http:/a/", "http//a/",
		"https://a/", "HTTP://a/", "Http://a/", "httpp://a/", "xhttp://a/", "ftp://a/", "//a/", "://a/", " http://a/", "http ://a/", "http:// a/", "http://a /", "http://http://a/",
		"http://A/", "http://a:80/", "http://a:080/", "http://a:081/", "http://a:/", "http://a:0/", "http://a:65536/", "http://a..b/", "http://-a/", "http://a_b/", "http://u@a/", "http://%61/", "http://a%2F", "http://[::1]/", "http://" + strings.Repeat("a", 65) + "/", "http://" + strings.Repeat("a", 64) + "/", "http://" + strings.Repeat("a", 63) + ".b/", "http://" + strings.Repeat("a", 60) + ":8080/",
		"http://a/%", "http://a/%4", "http://a/%zz", "http://a/%2", "http://a/%41", "http://a/%61", "http://a/%2F", "http://a/%2E", "http://a/%2f", "http://a/%3f", "http://a/%0d%0a", "http://a/%7e", "http://a/b c", "http://a/b\"c", "http://a/b<c", "http://a/é", "http://a/\r\n", "http://a/\x00", "http://a/#", "http://a/b#c", "http://a/[]", "http://a/\\", "http://a/%%", "http://a/%20%", "http://a/%e9",
		"http://a//", "http://a/b//c", "http://a/.", "http://a/..", "http://a/./", "http://a/b/../c", "http://a/%2E%2E", "http://a/.%2E", "http://a/b/.?q", "http://a/" + strings.Repeat("b", 128), "http://a/" + strings.Repeat("%20", 128), "http://a/" + strings.Repeat("b/", 64),
		"http://a/?", "http://a/b?", "http://a/?#", "http://a/?a#b", "http://a/?q q", "http://a/?\x7f", "http://a/?\x80", "http://a/?é", "http://a/?\r\n", "http://a/? ", "http://a/ ?q", "http://a/??#", "http://a/?" + strings.Repeat("q", 129), "http://a/?" + strings.Repeat("?", 129)}
}

// everyByte are strings with every byte at several places.
func everyByte() []string {
	var l []string
	for b := range 256 {
		one := string([]byte{byte(b)})
		for _, form := range []string{"#", "#a", "a#", "a#b", "##", "http#://a/", "http://#/", "http://a#/", "http://#a/", "http://a#b/c", "http://a:#/", "http://a:1#/", "http://a#", "#http://a/", "http:/#a/", "http://a/#", "http://a/b#c?q", "http://a/##", "http://a/b/#", "http://a/%#", "http://a/%2#", "http://a/%#0", "http://a/%C#/", "http://a/?#", "http://a/?q#r", "http://a/b#?q", "http://a/?#q", "http://a/b?%#", "http://a/b#"} {
			l = append(l, strings.ReplaceAll(form, "#", one))
		}
	}
	return l
}

// everyEscape are texts with an escape of every byte, its digits in each case.
func everyEscape() []string {
	var l []string
	for b := range 256 {
		upper, lower := fmt.Sprintf("%%%02X", b), fmt.Sprintf("%%%02x", b)
		for _, escape := range []string{upper, lower, upper[:2] + lower[2:], lower[:2] + upper[2:]} {
			for _, form := range []string{"#", "http://a/#", "http://a/b#c", "http://a/##?#", "http://a/?#", "http://#/", "http://a#", "http://a/#/", "http://a/.#", "http://a/b/#/c?q"} {
				l = append(l, strings.ReplaceAll(form, "#", escape))
			}
		}
	}
	return l
}

// piece is one of the pieces, or, now and then, any byte.
func piece(r *rand.Rand, pieces ...string) string {
	if r.Intn(25) == 0 {
		return string([]byte{byte(r.Intn(256))})
	}
	return pieces[r.Intn(len(pieces))]
}

// several are a few pieces, one behind the other.
func several(r *rand.Rand, most int, pieces ...string) string {
	var b strings.Builder
	for range r.Intn(most + 1) {
		b.WriteString(piece(r, pieces...))
	}
	return b.String()
}

// samples are random strings that are put together from pieces.
func samples(n int) []string {
	r := rand.New(rand.NewSource(17))
	var l []string
	for range n {
		s := piece(r, "http://", "http://", "http://", "http://", "http://", "http://", "http://", "https://", "HTTP://", "", "//")
		s += piece(r, "a", "a", "a.b", "www.a.org", "a:1", "a:8080", "a:80", "A", "", "1.2", "a-", "a..b")
		s += piece(r, "/", "/", "/", "/", "/", "/", "/", "/", "", "//")
		s += several(r, 8, "a", "b/", "c", "/d", ".e", "f.", "%20", "%25", "%3F", "%FF", "%00", "-_~", "!$&'()*+,;=:@", "g/h", "%C3%A9", "%41", "%2f", ".")
		if r.Intn(2) == 0 {
			s += "?" + several(r, 6, "q", "=1", "&", "?", "%", "%20", "/", "..", "\"", "~", "x=y")
		}
		l = append(l, s)
	}
	return l
}

// randomParts are random parts, most of them those of a Location.
func randomParts(n int) []parts {
	r := rand.New(rand.NewSource(71))
	var l []parts
	for range n {
		l = append(l, parts{
			host:  piece(r, "a", "a.b", "b", "www.a.org", "a:1", "b:1", "a:8080", "a.b:81", "0", "x-y.z", "a1", "a", "b", "A", "a:80"),
			path:  "/" + several(r, 6, "a", "b/", "c", "/d", " ", "%", "%41", "%2F", "?", "#", "\x00", "\r\n", "é", "\xff", ".e", "f.", "~!", "g/", "x", "\"", "..x"),
			query: several(r, 5, "q", "=1", "&", "?", "%", "%20", "/", "\"", "~", "x=y", "1", "a", "b", ";", "+"),
		})
	}
	return l
}

// ofLengths are parts of which some are as long as allowed, nearly so, or longer.
func ofLengths() []parts {
	var l []parts
	add := func(host, path, query string) {
		l = append(l, parts{host, path, query}, parts{host, "/", query}, parts{"a", path, query}, parts{host, path, ""})
	}
	for _, n := range []int{1, 2, 42, 43, 58, 59, 60, 62, 63, 64, 65, 66, 126, 127, 128, 129, 130, 256, 384, 385} {
		for _, s := range []string{"a", " ", "ab/", "%", "/", "é", ".x", "é/", "\x00", "%20"} {
			path := ("/" + strings.Repeat(s, n))[:n]
			add("a", path, "")
			add("a.b:81", path, "q")
			add("a", path, strings.Repeat("q", 128))
			add("a", path, strings.Repeat("q", 129))
			add("a", path[:n-1]+"z", " ")
		}
		for _, s := range []string{"q", "?", "%", "%20", "q&", "#", " ", "\"", "a=1&"} {
			query := strings.Repeat(s, n)[:n]
			add("a", "/", query)
			add("b.c", "/x y", query[:n-1]+"~")
			add("b.c", "/x y", query[:n-1]+"#")
			add("a", "/"+strings.Repeat("a", 127), query)
			add("a", "/"+strings.Repeat("a", 128), query)
		}
		for _, s := range []string{"a", "a.", "abc.", "a-"} {
			name := strings.Repeat(s, n)[:n-1] + "z"
			for _, port := range []string{"", ":1", ":80", ":81", ":8080", ":65535"} {
				add(name+port, "/b", "q")
			}
		}
	}
	return l
}

// isNew returns whether a result has memory of its own.
func isNew(result, argument string) bool {
	from := uintptr(unsafe.Pointer(unsafe.StringData(argument)))
	at := uintptr(unsafe.Pointer(unsafe.StringData(result)))
	return result == "" || at < from || at >= from+uintptr(len(argument))
}
