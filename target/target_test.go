package target_test

import (
	"fmt"
	"math"
	"math/rand"
	"strings"
	"testing"

	"waypost/api"
	"waypost/byteset"
	"waypost/dots"
	"waypost/location"
	"waypost/percent"
	"waypost/target"
)

// P18.1 to P18.3

func TestShortTexts(t *testing.T) {
	for _, s := range shortTexts("/a.?#", 5) {
		check(t, s)
	}
	for _, s := range shortTexts("/.%2eE?a", 5) {
		check(t, "/"+s)
	}
	for _, s := range shortTexts("/.a", 8) {
		check(t, "/"+s)
	}
	for _, s := range shortTexts("%0aD/3", 5) {
		check(t, "/"+s)
	}
}

func TestShortPieces(t *testing.T) {
	for _, s := range shortJoined([]string{"a", "/", ".", "..", "/.", "/..", "%2F", "%2f", "%2e", "%2E", "%25", "%20", "%00", "%0A", "%61", "?", "%"}, 4) {
		check(t, "/"+s)
	}
	for _, s := range shortJoined([]string{"/", "a", "?", "q", "/../", " ", "%", "%3F", "%3f", "\xff"}, 5) {
		check(t, s)
	}
}

func TestEveryByte(t *testing.T) {
	for _, s := range append(everyByte(), everyEscape()...) {
		check(t, s)
		checkText(t, s, "")
		checkText(t, "/a", s)
		checkSame(t, s, "/a")
		checkSame(t, "/a", s)
		checkSame(t, s, s)
	}
}

// A change of one byte makes some targets wrong, and leads others to another place.
func TestChanges(t *testing.T) {
	for _, s := range []string{"/a%20b/./c/../d?e=%66", "/", "/?q", "/%3F%2f%25", "/a/../b"} {
		for i := range len(s) {
			check(t, s[:i])
			check(t, s[i:])
			check(t, s[:i]+s[i+1:])
			check(t, s[:i]+s[i:i+1]+s[i:])
			for b := range 256 {
				one := string([]byte{byte(b)})
				for _, other := range []string{s[:i] + one + s[i+1:], s[:i] + one + s[i:]} {
					check(t, other)
					checkSame(t, s, other)
				}
			}
		}
	}
}

func TestSamples(t *testing.T) {
	l := samples(20000)
	kept := only(l, isGood)
	if len(kept) < 5000 || len(kept) > 18000 {
		t.Fatal(len(kept))
	}
	for _, s := range l {
		check(t, s)
		checkText(t, s, s)
	}
	r := rand.New(rand.NewSource(7))
	for range 10000 {
		checkSame(t, kept[r.Intn(len(kept))], kept[r.Intn(len(kept))])
		checkSame(t, l[r.Intn(len(l))], l[r.Intn(len(l))])
	}
	list, good := randomPlaces(20000), 0
	for _, p := range list {
		checkText(t, p.path, p.query)
		if _, e := textOf(p); e == api.OK {
			good++
		}
	}
	if good < 5000 || good > 18000 {
		t.Fatal(good)
	}
}

// All errors of targets meet each other here, and those of limits.
func TestOrderOfErrors(t *testing.T) {
	seen := map[string]int{}
	for _, s := range faults() {
		check(t, s)
		checkSame(t, s, "/a")
		checkSame(t, "/a", s)
		for _, limit := range []int{math.MinInt, -1, 0, 1, 129, math.MaxInt} {
			checkParse(t, s, limit)
		}
		_, e, status := parseOf(s, 128)
		seen[fmt.Sprint(e, status)]++
	}
	for _, v := range []string{"ok 200", "long 414", "form 400", "dots 400"} {
		if seen[v] < 20 {
			t.Errorf("%s: %d", v, seen[v])
		}
	}
	wrong := []string{"/", "a", "/%", "/%00", "/..", "/" + strings.Repeat("a", 128), "/?" + strings.Repeat("q", 129), strings.Repeat("a", 1025)}
	for _, a := range wrong {
		for _, b := range wrong {
			checkSame(t, a, b)
		}
	}
	for _, path := range paths() {
		for _, query := range queries() {
			checkText(t, path, query)
		}
	}
}

func TestLimits(t *testing.T) {
	for _, s := range []string{"", "/", "a", "/a", "/abc", "/a/../b", "/%61%62", "/..", "/%", "/a?q", "/a?" + strings.Repeat("q", 129), "/" + strings.Repeat("a", 126), "/" + strings.Repeat("a", 127), "/" + strings.Repeat("a", 128), "/" + strings.Repeat("%61", 126), "/" + strings.Repeat("%61", 127), "/" + strings.Repeat("a/./", 40), strings.Repeat("/", 1024), strings.Repeat("/", 1025)} {
		for _, limit := range limits() {
			checkParse(t, s, limit)
		}
	}
}

func TestLengths(t *testing.T) {
	for _, s := range ofLengths() {
		check(t, s)
		checkText(t, s, "")
		checkText(t, s, s)
		checkText(t, "/", s)
		checkSame(t, s, "/a")
	}
}

func TestVeryLong(t *testing.T) {
	for _, piece := range []string{"/", "a", "/..", "%", "#", "\x00", "?", "/a"} {
		for _, begin := range []string{"", "/", "/?", "/..", "/%"} {
			long := begin + strings.Repeat(piece, 1<<20)
			check(t, long)
			checkText(t, long, "")
			checkText(t, long, long)
			checkText(t, "/", long)
			checkSame(t, long, "/")
			checkSame(t, "/", long)
		}
	}
}

// P18.1

func TestSplit(t *testing.T) {
	full := "/" + strings.Repeat("a", 1023)
	for _, c := range []struct {
		s, raw, query string
		e             api.Errno
	}{
		{"/a?b?c", "/a", "b?c", api.OK},
		{"/a b", "", "", api.ErrForm},
		{"/", "/", "", api.OK},
		{"/?", "/", "", api.OK},
		{"/??", "/", "?", api.OK},
		{"/%", "/%", "", api.OK},
		{"/%zz/../..//?%zz", "/%zz/../..//", "%zz", api.OK},
		{"/%00%3f?", "/%00%3f", "", api.OK},
		{"/!\"$%&'()*+,-./:;<=>@[\\]^_`{|}~", "/!\"$%&'()*+,-./:;<=>@[\\]^_`{|}~", "", api.OK},
		{"/?!\"$%&'()*+,-./:;<=>?@[\\]^_`{|}~", "/", "!\"$%&'()*+,-./:;<=>?@[\\]^_`{|}~", api.OK},
		{"//a?/b", "//a", "/b", api.OK},
		{full, full, "", api.OK},
		{"/?" + full[2:], "/", full[2:], api.OK},
		{full[1:] + "?", "", "", api.ErrForm},
		{full + "a", "", "", api.ErrLong},
		{full + "?", "", "", api.ErrLong},
		{full + "#", "", "", api.ErrLong},
		{strings.Repeat("#", 1025), "", "", api.ErrLong},
		{strings.Repeat("#", 1024), "", "", api.ErrForm},
		{"", "", "", api.ErrForm},
		{"*", "", "", api.ErrForm},
		{"a", "", "", api.ErrForm},
		{"?", "", "", api.ErrForm},
		{"?/", "", "", api.ErrForm},
		{"%2F", "", "", api.ErrForm},
		{"http://a/", "", "", api.ErrForm},
		{" /", "", "", api.ErrForm},
		{"/#", "", "", api.ErrForm},
		{"/?#", "", "", api.ErrForm},
		{"/a?b c", "", "", api.ErrForm},
		{"/\x7f", "", "", api.ErrForm},
		{"/é", "", "", api.ErrForm},
		{"/a\r\n", "", "", api.ErrForm},
		{"/a?\x00", "", "", api.ErrForm},
	} {
		if raw, query, e := target.Split(c.s); raw != c.raw || query != c.query || e != c.e {
			t.Errorf("%.80q: %.80q %.80q %v", c.s, raw, query, e)
		}
	}
}

func TestChars(t *testing.T) {
	s := target.Chars()
	for b := range 256 {
		want := b >= 33 && b <= 126 && b != '#'
		one := string([]byte{byte(b)})
		_, _, e := target.Split("/" + one)
		if byteset.Has(s, byte(b)) != want || want != (e == api.OK) || want != charForm.MatchString(one) {
			t.Errorf("%q: not %v", one, want)
		}
	}
	if n := byteset.Count(s); n != 93 {
		t.Error(n)
	}
}

// P18.2

func TestParse(t *testing.T) {
	b127, q128 := strings.Repeat("b", 127), strings.Repeat("q", 128)
	for _, c := range []struct {
		s           string
		limit       int
		path, query string
		e           api.Errno
		status      int
	}{
		{"/a%20b?x=1?y", 128, "/a b", "x=1?y", api.OK, 200},
		{"/a//./b/../c/", 128, "/a/c/", "", api.OK, 200},
		{"/?", 128, "/", "", api.OK, 200},
		{"/..", 128, "", "", api.ErrDots, 400},
		{"a", 128, "", "", api.ErrForm, 400},
		{"/%2e%2e/a", 128, "", "", api.ErrDots, 400},
		{"/a%2fb", 128, "/a/b", "", api.OK, 200},
		{"/%00", 128, "", "", api.ErrForm, 400},
		{"/%0d", 128, "", "", api.ErrForm, 400},
		{"/%0A", 128, "", "", api.ErrForm, 400},
		{"/%4", 128, "", "", api.ErrForm, 400},
		{"/a#", 128, "", "", api.ErrForm, 400},
		{"/abc", 3, "", "", api.ErrLong, 414},
		{"/abc", 4, "/abc", "", api.OK, 200},
		{"/a/../b", 2, "/b", "", api.OK, 200},
		{"/a", 0, "", "", api.ErrRange, 0},
		{strings.Repeat("a", 1025), 128, "", "", api.ErrLong, 414},
		{"a", 0, "", "", api.ErrRange, 0},
		{"a", 129, "", "", api.ErrRange, 0},
		{strings.Repeat("a", 1025), -1, "", "", api.ErrRange, 0},
		{"/", 1, "/", "", api.OK, 200},
		{"/a", 1, "", "", api.ErrLong, 414},
		{strings.Repeat("/", 1024), 1, "/", "", api.OK, 200},
		{strings.Repeat("/", 1025), 1, "", "", api.ErrLong, 414},
		{"/" + b127, 128, "/" + b127, "", api.OK, 200},
		{"/" + b127 + "b", 128, "", "", api.ErrLong, 414},
		{"/" + strings.Repeat("%62", 127), 128, "/" + b127, "", api.OK, 200},
		{"/" + strings.Repeat("%62", 128), 128, "", "", api.ErrLong, 414},
		{"/" + b127 + "bb/../c", 128, "/c", "", api.OK, 200},
		{"/?" + q128, 1, "/", q128, api.OK, 200},
		{"/?q" + q128, 1, "", "", api.ErrLong, 414},
		{"/?" + q128[:126] + "%41", 128, "", "", api.ErrLong, 414},
		{"/a?%zz%00..", 128, "/a", "%zz%00..", api.OK, 200},
		{"/../" + b127 + "b", 128, "", "", api.ErrDots, 400},
		{"/..?q" + q128, 128, "", "", api.ErrDots, 400},
		{"/%?q" + q128, 128, "", "", api.ErrForm, 400},
		{"/../%", 128, "", "", api.ErrForm, 400},
		{"/../%00", 128, "", "", api.ErrForm, 400},
		{"/../#", 128, "", "", api.ErrForm, 400},
		{"/%41%", 128, "", "", api.ErrForm, 400},
		{"/%zz", 128, "", "", api.ErrForm, 400},
		{"/%%41", 128, "", "", api.ErrForm, 400},
		{"/%2", 128, "", "", api.ErrForm, 400},
		{"/a%3", 128, "", "", api.ErrForm, 400},
		{"/a%?4", 128, "", "", api.ErrForm, 400},
		{"/%2541", 128, "/%41", "", api.OK, 200},
		{"/%252e%252e/", 128, "/%2e%2e/", "", api.OK, 200},
		{"/%3f?%3f", 128, "/?", "%3f", api.OK, 200},
		{"/%23%20%7f%09", 128, "/# \x7f\t", "", api.OK, 200},
		{"/%FF%fe", 128, "/\xff\xfe", "", api.OK, 200},
		{"/%2F%2f/a", 128, "/a", "", api.OK, 200},
		{"/.%2E", 128, "", "", api.ErrDots, 400},
		{"/a%2F%2e%2e%2Fb", 128, "/b", "", api.OK, 200},
		{"/a/..", 128, "/", "", api.OK, 200},
		{"/a/b/..", 128, "/a/", "", api.OK, 200},
		{"/a/../..", 128, "", "", api.ErrDots, 400},
		{"/a/.", 128, "/a/", "", api.OK, 200},
		{"/...", 128, "/...", "", api.OK, 200},
		{"/+", 128, "/+", "", api.OK, 200},
		{"*", 128, "", "", api.ErrForm, 400},
		{"", 128, "", "", api.ErrForm, 400},
	} {
		path, query, status := target.Parse(c.s, c.limit)
		e, other := target.Why(c.s, c.limit)
		if path != c.path || query != c.query || status != c.status || e != c.e || other != c.status {
			t.Errorf("%.80q, %d: %.80q %.80q %d, %v %d", c.s, c.limit, path, query, status, e, other)
		}
	}
}

// P18.3

func TestText(t *testing.T) {
	b127, q128 := strings.Repeat("b", 127), strings.Repeat("q", 128)
	for _, c := range []struct {
		path, query, want string
		e                 api.Errno
	}{
		{"/a b", "q", "/a%20b?q", api.OK},
		{"/", "", "/", api.OK},
		{"/", "?", "/??", api.OK},
		{"/a?b#c%", "d?e%zz", "/a%3Fb%23c%25?d?e%zz", api.OK},
		{"/%41", "", "/%2541", api.OK},
		{"/\x00\r\n", "", "/%00%0D%0A", api.OK},
		{"/é\xff", "", "/%C3%A9%FF", api.OK},
		{"/-._~!$&'()*+,;=:@/0z/AZ", "", "/-._~!$&'()*+,;=:@/0z/AZ", api.OK},
		{"/\"<>[\\]^`{|}", "\"<>[\\]^`{|}", "/%22%3C%3E%5B%5C%5D%5E%60%7B%7C%7D?\"<>[\\]^`{|}", api.OK},
		{"/..a/.b/...", "", "/..a/.b/...", api.OK},
		{"/" + b127, q128, "/" + b127 + "?" + q128, api.OK},
		{"/" + strings.Repeat(" ", 127), "", "/" + strings.Repeat("%20", 127), api.OK},
		{"", "", "", api.ErrDots},
		{"a", "", "", api.ErrDots},
		{"/a//b", "", "", api.ErrDots},
		{"/.", "", "", api.ErrDots},
		{"/a/../b", "", "", api.ErrDots},
		{"/" + b127 + "b", "", "", api.ErrDots},
		{"/" + b127 + "b", "#" + q128, "", api.ErrDots},
		{"/..", "#", "", api.ErrDots},
		{"/..", "q" + q128, "", api.ErrDots},
		{"/", "q" + q128, "", api.ErrLong},
		{"/", "#" + q128, "", api.ErrLong},
		{"/", "#" + q128[1:], "", api.ErrForm},
		{"/", "a b", "", api.ErrForm},
		{"/", "#", "", api.ErrForm},
		{"/", "\x7f", "", api.ErrForm},
		{"/", "é", "", api.ErrForm},
		{"/", "q\r\n", "", api.ErrForm},
	} {
		if s, e := target.Text(c.path, c.query); s != c.want || e != c.e {
			t.Errorf("%.80q %.80q: %.80q %v", c.path, c.query, s, e)
		}
	}
}

func TestCanonical(t *testing.T) {
	b127, q128 := strings.Repeat("b", 127), strings.Repeat("q", 128)
	for _, c := range []struct {
		s, want string
		e       api.Errno
	}{
		{"/%61//b?", "/a/b", api.OK},
		{"/", "/", api.OK},
		{"/?", "/", api.OK},
		{"/%7e%2f%20%c3?%7e", "/~/%20%C3?%7e", api.OK},
		{"/<a>\"?<a>", "/%3Ca%3E%22?<a>", api.OK},
		{"/a/./b/../c/..", "/a/", api.OK},
		{"/%3F??", "/%3F??", api.OK},
		{"/%2541", "/%2541", api.OK},
		{"/" + strings.Repeat("<", 127) + "?" + q128, "/" + strings.Repeat("%3C", 127) + "?" + q128, api.OK},
		{"/" + b127, "/" + b127, api.OK},
		{"/" + b127 + "b", "", api.ErrLong},
		{"/?q" + q128, "", api.ErrLong},
		{strings.Repeat("/", 1024), "/", api.OK},
		{strings.Repeat("/", 1025), "", api.ErrLong},
		{"a", "", api.ErrForm},
		{"/%0a", "", api.ErrForm},
		{"/%", "", api.ErrForm},
		{"/..", "", api.ErrDots},
	} {
		if s, e := target.Canonical(c.s); s != c.want || e != c.e {
			t.Errorf("%.80q: %.80q %v", c.s, s, e)
		}
	}
}

func TestSame(t *testing.T) {
	long := "/" + strings.Repeat("a", 128)
	for _, c := range []struct {
		a, b string
		is   bool
		e    api.Errno
	}{
		{"/a/./b", "/a/%62", true, api.OK},
		{"/a", "/a?x", false, api.OK},
		{"/a?", "/a", true, api.OK},
		{"/a?x", "/a?x", true, api.OK},
		{"/a?x", "/a?%78", false, api.OK},
		{"/a?x", "/b?x", false, api.OK},
		{"/a", "/A", false, api.OK},
		{"/a", "/a/", false, api.OK},
		{"/a%3Fb", "/a?b", false, api.OK},
		{"/%2F%2e", "/b/..", true, api.OK},
		{"/a?x?y", "/a?x", false, api.OK},
		{"/..", "a", false, api.ErrDots},
		{"a", "/..", false, api.ErrForm},
		{"a", long, false, api.ErrForm},
		{long, "a", false, api.ErrLong},
		{"/..", "/..", false, api.ErrDots},
		{"/", "/..", false, api.ErrDots},
		{"/", long, false, api.ErrLong},
		{"/", "a", false, api.ErrForm},
		{"a", "a", false, api.ErrForm},
	} {
		if is, e := target.Same(c.a, c.b); is != c.is || e != c.e {
			t.Errorf("%.80q, %.80q: %v %v", c.a, c.b, is, e)
		}
	}
}

// Arguments stay as they are, and no result is a part of them (R4).
func TestMemory(t *testing.T) {
	for _, s := range []string{"/", "/a", "/a?b", "/a/b/?c?d", "/a%20b/../c?%", "/a?"} {
		raw, query, e := target.Split(s)
		if e != api.OK || !isNew(raw, s) || !isNew(query, s) {
			t.Errorf("%q: split %q %q %v", s, raw, query, e)
		}
		path, query, status := target.Parse(s, 128)
		if status != 200 || !isNew(path, s) || !isNew(query, s) {
			t.Errorf("%q: parsed %q %q %d", s, path, query, status)
		}
		text, e := target.Canonical(s)
		if e != api.OK || !isNew(text, s) {
			t.Errorf("%q: canonical %q %v", s, text, e)
		}
		text, e = target.Text(path, query)
		if e != api.OK || !isNew(text, path) || !isNew(text, query) {
			t.Errorf("%q %q: %q %v", path, query, text, e)
		}
	}
	one, two := target.Chars(), target.Chars()
	one[0] = 0
	if two == one || target.Chars() != two {
		t.Error("a change of one set changes another one")
	}
}

// somePlaces are paths and queries of many canonical targets.
func somePlaces() []place {
	var l []place
	for _, path := range only(paths(), isNormal) {
		for _, query := range only(queries(), isQuery) {
			l = append(l, place{path, query})
		}
	}
	for _, p := range randomPlaces(20000) {
		if isNormal(p.path) && isQuery(p.query) {
			l = append(l, p)
		}
	}
	for _, path := range only(shortTexts("a/.%? \xff\n", 5), isNormal) {
		for _, query := range []string{"", "?", "a"} {
			l = append(l, place{path, query})
		}
	}
	return l
}

// someTargets are strings of which many are targets.
func someTargets() []string {
	l := append(samples(20000), shortTexts("/.a%2?", 5)...)
	l = append(append(l, everyByte()...), everyEscape()...)
	return append(l, ofLengths()...)
}

// P18.4

func TestParseOfText(t *testing.T) {
	parsed := 0
	for _, p := range somePlaces() {
		s, e := target.Text(p.path, p.query)
		if e != api.OK {
			t.Fatalf("%.200q: %v", p, e)
		}
		for _, limit := range []int{1, len(p.path) - 1, len(p.path), len(p.path) + 1, 128} {
			path, query, status := target.Parse(s, limit)
			want, wantStatus := p, 200
			switch {
			case limit < 1 || limit > 128:
				want, wantStatus = place{}, 0
			case strings.ContainsAny(p.path, "\x00\n\r"):
				want, wantStatus = place{}, 400
			case len(p.path) > limit:
				want, wantStatus = place{}, 414
			default:
				parsed++
			}
			if (place{path, query}) != want || status != wantStatus {
				t.Fatalf("%.200q, %d: %.200q %.200q %d", p, limit, path, query, status)
			}
		}
	}
	if parsed < 20000 {
		t.Error(parsed)
	}
}

// P18.5

func TestCanonicalOfCanonical(t *testing.T) {
	found := 0
	for _, s := range someTargets() {
		text, e := target.Canonical(s)
		if e != api.OK {
			continue
		}
		found++
		path, query, _ := target.Parse(s, 128)
		again, f := target.Canonical(text)
		samePath, sameQuery, status := target.Parse(text, 128)
		same, g := target.Same(text, s)
		if again != text || f != api.OK || samePath != path || sameQuery != query || status != 200 || !same || g != api.OK {
			t.Fatalf("%.200q: %.200q %.200q %v, %.80q %.80q %d, %v %v", s, text, again, f, samePath, sameQuery, status, same, g)
		}
	}
	if found < 10000 {
		t.Error(found)
	}
}

// P18.6

func TestNormal(t *testing.T) {
	found := 0
	for _, s := range someTargets() {
		for _, limit := range []int{1, 2, 5, 100, 127, 128} {
			path, query, status := target.Parse(s, limit)
			if status != 200 {
				continue
			}
			found++
			if !dots.Normal(path) || !isNormal(path) || len(path) > limit || len(query) > 128 {
				t.Fatalf("%.200q, %d: %.200q %.200q", s, limit, path, query)
			}
		}
	}
	if found < 30000 {
		t.Error(found)
	}
}

// encodeSome encodes some bytes of a raw path that belong to no escape; each one with the same chance, but not the first slash. A percent sign that begins no escape stays: it is an error, and its escape is none.
func encodeSome(r *rand.Rand, raw string, chance float64) string {
	var b strings.Builder
	for i := 0; i < len(raw); i++ {
		switch {
		case raw[i] == '%' && len(raw) >= i+3 && escapeForm.MatchString(raw[i:i+3]):
			b.WriteString(raw[i : i+3])
			i += 2
		case i > 0 && raw[i] != '%' && r.Float64() < chance:
			form := []string{"%%%02X", "%%%02x"}[r.Intn(2)]
			fmt.Fprintf(&b, form, raw[i])
		default:
			b.WriteByte(raw[i])
		}
	}
	return b.String()
}

// P18.7

func TestEncoded(t *testing.T) {
	r := rand.New(rand.NewSource(187))
	encoded := 0
	for _, s := range someTargets() {
		raw, _, e := target.Split(s)
		if e != api.OK {
			continue
		}
		for _, chance := range []float64{0.2, 0.7, 1} {
			other := encodeSome(r, raw, chance) + s[len(raw):]
			if len(other) > 1024 {
				continue
			}
			if other != s {
				encoded++
			}
			for _, limit := range []int{1, 3, 128} {
				path, query, status := target.Parse(s, limit)
				samePath, sameQuery, sameStatus := target.Parse(other, limit)
				if path != samePath || query != sameQuery || status != sameStatus {
					t.Fatalf("%.200q, %.200q, %d: %.80q %.80q %d, %.80q %.80q %d", s, other, limit, path, query, status, samePath, sameQuery, sameStatus)
				}
			}
		}
	}
	if encoded < 30000 {
		t.Error(encoded)
	}
}

// P18.8

func TestGreaterLimit(t *testing.T) {
	for _, s := range append(samples(2000), only(ofLengths(), isGood)...) {
		path, query, status := "", "", 0
		for limit := 1; limit <= 128; limit++ {
			nextPath, nextQuery, nextStatus := target.Parse(s, limit)
			if status == 200 && (nextPath != path || nextQuery != query || nextStatus != status) {
				t.Fatalf("%.200q, %d: %.80q %.80q %d, %.80q %.80q %d", s, limit, path, query, status, nextPath, nextQuery, nextStatus)
			}
			path, query, status = nextPath, nextQuery, nextStatus
		}
	}
}

// What Parse and Text accept is what the packages on which they build say.
func TestLowerLayers(t *testing.T) {
	for _, s := range someTargets() {
		raw, query, e := target.Split(s)
		if e != api.OK {
			continue
		}
		path, sameQuery, status := target.Parse(s, 128)
		said, f := percent.Decode(raw)
		clean, g := dots.Clean(said)
		is := f.Err == api.OK && g == api.OK && location.Safe(said) && len(clean) <= 128 && len(query) <= 128
		if is != (status == 200) || is && (path != clean || query != sameQuery) {
			t.Fatalf("%.200q: %.200q %.200q %d", s, path, sameQuery, status)
		}
	}
	for _, p := range append(randomPlaces(10000), somePlaces()...) {
		s, e := target.Text(p.path, p.query)
		where, f := location.Build("a", p.path, p.query)
		if e != f || e == api.OK && "http://a"+s != where {
			t.Fatalf("%.200q: %.200q %v, %.200q %v", p, s, e, where, f)
		}
	}
}
