package location_test

import (
	"math/rand"
	"strings"
	"testing"

	"waypost/api"
	"waypost/byteset"
	"waypost/dots"
	"waypost/host"
	"waypost/location"
	"waypost/percent"
)

// P17.1, P17.2

func TestShortTexts(t *testing.T) {
	for _, s := range shortTexts("ht:/p", 5) {
		check(t, s)
	}
	for _, s := range shortTexts("aA./?:8", 5) {
		check(t, "http://"+s)
	}
	for _, s := range shortTexts("a-.0:/", 5) {
		check(t, "http://"+s+"/")
	}
	for _, s := range shortTexts("a/.%2?# ", 5) {
		check(t, "http://a/"+s)
	}
	for _, s := range shortTexts("%20Ff/", 5) {
		check(t, "http://a/"+s)
	}
}

func TestShortPieces(t *testing.T) {
	for _, s := range shortJoined([]string{"a", "/", ".", "%2F", "%2E", "%2e", "%25", "%20", "%FF", "%61", "?", "q", "%"}, 4) {
		check(t, "http://a.b/"+s)
	}
	for _, s := range shortJoined([]string{"http://", "a", "A", ":81", ":80", "/", "b", "%20", "?", "q", "#"}, 5) {
		check(t, s)
	}
}

func TestShortParts(t *testing.T) {
	for _, path := range shortTexts("a/.%? ", 5) {
		for _, host := range []string{"a", "a:1", "A"} {
			for _, query := range []string{"", "q", "?", "#"} {
				checkBuild(t, parts{host, path, query})
			}
		}
	}
	for _, name := range shortTexts("aA.-:8", 5) {
		checkBuild(t, parts{name, "/", ""})
		checkBuild(t, parts{name, "/", "q"})
		checkBuild(t, parts{name, "/ b", "?"})
	}
	for _, query := range shortTexts("q?/%#& ", 5) {
		checkBuild(t, parts{"a", "/", query})
		checkBuild(t, parts{"a", "/b", query})
	}
}

// All errors of Build meet each other here.
func TestOrderOfErrors(t *testing.T) {
	for _, name := range hosts() {
		for _, path := range paths() {
			for _, query := range queries() {
				checkBuild(t, parts{name, path, query})
			}
		}
	}
	for _, name := range hosts() {
		for _, s := range wrong() {
			checkOwn(t, s, name)
		}
		for _, p := range randomParts(50) {
			s, _ := buildOf(p.host, p.path, p.query)
			checkOwn(t, s, name)
			checkOwn(t, "http://"+name+"/", p.host)
		}
	}
}

func TestWrong(t *testing.T) {
	for _, s := range wrong() {
		check(t, s)
		name, path, query, e := location.Split(s)
		is, f := location.Own(s, "a")
		if name != "" || path != "" || query != "" || is || e != api.ErrForm || f != api.ErrForm {
			t.Errorf("%.80q: %.80q %.80q %.80q %v, %v %v", s, name, path, query, e, is, f)
		}
	}
}

func TestEveryByte(t *testing.T) {
	for _, s := range everyByte() {
		check(t, s)
		checkBuild(t, parts{s, "/", ""})
		checkBuild(t, parts{"a", s, ""})
		checkBuild(t, parts{"a", "/" + s, ""})
		checkBuild(t, parts{"a", "/b", s})
		checkOwn(t, "http://a/", s)
	}
	for _, s := range everyEscape() {
		check(t, s)
		checkBuild(t, parts{"a", "/" + s, s})
	}
}

// A change of one byte makes most Locations wrong, but not all.
func TestChanges(t *testing.T) {
	for _, s := range []string{"http://a.b:81/c%20d/e?f=g", "http://a/", "http://a/?q", "http://b/%25%3F%23"} {
		for i := range len(s) {
			check(t, s[:i])
			check(t, s[i:])
			check(t, s[:i]+s[i+1:])
			check(t, s[:i]+s[i:i+1]+s[i:])
			for b := range 256 {
				one := string([]byte{byte(b)})
				check(t, s[:i]+one+s[i+1:])
				check(t, s[:i]+one+s[i:])
			}
		}
	}
}

func TestSamples(t *testing.T) {
	l := samples(20000)
	kept := only(l, isLocation)
	if len(kept) < 2000 || len(kept) > 18000 {
		t.Fatal(len(kept))
	}
	for _, s := range l {
		check(t, s)
		checkBuild(t, parts{"a", s, s})
	}
	r := rand.New(rand.NewSource(7))
	for range 5000 {
		one, _ := splitOf(kept[r.Intn(len(kept))])
		checkOwn(t, kept[r.Intn(len(kept))], one.host)
	}
	list, good := randomParts(20000), 0
	for _, p := range list {
		checkBuild(t, p)
		if _, e := buildOf(p.host, p.path, p.query); e == api.OK {
			good++
		}
	}
	if good < 5000 || good > 18000 {
		t.Fatal(good)
	}
}

func TestLengths(t *testing.T) {
	for _, p := range ofLengths() {
		checkBuild(t, p)
		check(t, "http://"+p.host+encodeOf(p.path)+"?"+p.query)
		check(t, "http://"+p.host+encodeOf(p.path))
		check(t, p.query)
	}
}

func TestVeryLong(t *testing.T) {
	for _, s := range []string{"a", "/", "?", "%20", "%", "#", "\x00", "\xff", "b/", "http://", "a."} {
		long := strings.Repeat(s, 1<<10)
		for _, p := range []parts{{long, "/", ""}, {"a", long, ""}, {"a", "/" + long, "#"}, {"a", "/", long}, {long, long, long}} {
			checkBuild(t, p)
		}
		for _, text := range []string{long, "http://" + long, "http://a" + long, "http://a/" + long, "http://a/?" + long, "http://" + long + "/", "http://a/" + long + "?q", "http://a/?q" + long} {
			check(t, text)
			checkOwn(t, text, long)
		}
		checkOwn(t, "http://a/", long)
	}
	for _, s := range []string{"a", "/a", "%20"} {
		long := "http://a/b" + strings.Repeat(s, 1<<20)
		_, _, _, e := location.Split(long)
		_, f := location.Own(long, "a")
		_, g := location.Query(long)
		if e != api.ErrForm || f != api.ErrForm || g != api.ErrLong || !location.Safe(long) || location.Safe(long+"\n") {
			t.Errorf("%q: %v %v %v", s, e, f, g)
		}
	}
}

// P17.1

func TestBuild(t *testing.T) {
	long, name := "/"+strings.Repeat("b", 127), strings.Repeat("a", 63)
	for _, c := range []struct {
		host, path, query, want string
		e                       api.Errno
	}{
		{"a.b", "/x y", "", "http://a.b/x%20y", api.OK},
		{"a.b:8080", "/", "q=1%20", "http://a.b:8080/?q=1%20", api.OK},
		{"A.b", "/", "", "", api.ErrName},
		{"a.b", "x", "", "", api.ErrDots},
		{"a.b", "/", "q q", "", api.ErrForm},
		{"a.b", "/", "a#", "", api.ErrForm},
		{"a.b", "/%", "%", "http://a.b/%25?%", api.OK},
		{"a", "/", "", "http://a/", api.OK},
		{"a", "/", "?", "http://a/??", api.OK},
		{"a", "/b/", "", "http://a/b/", api.OK},
		{"a", "/%20", "", "http://a/%2520", api.OK},
		{"a", "/a?b#c", "d?e", "http://a/a%3Fb%23c?d?e", api.OK},
		{"a", "/\x00\r\n", "", "http://a/%00%0D%0A", api.OK},
		{"a", "/é\xff", "", "http://a/%C3%A9%FF", api.OK},
		{"a", "/-._~!$&'()*+,;=:@/0z", "", "http://a/-._~!$&'()*+,;=:@/0z", api.OK},
		{"a", "/\"<>[\\]^`{|}", "", "http://a/%22%3C%3E%5B%5C%5D%5E%60%7B%7C%7D", api.OK},
		{"a", "/..a/.b/...", "", "http://a/..a/.b/...", api.OK},
		{"a", "/", "\"<>[\\]^`{|}", "http://a/?\"<>[\\]^`{|}", api.OK},
		{"a", "/", "../..//", "http://a/?../..//", api.OK},
		{"1.2.3.4:8", "/", "", "http://1.2.3.4:8/", api.OK},
		{"", "/", "", "", api.ErrName},
		{"a:80", "/", "", "", api.ErrName},
		{"a:081", "/", "", "", api.ErrName},
		{"a:0", "/", "", "", api.ErrName},
		{"a/", "/", "", "", api.ErrName},
		{"a\r\nb", "/", "", "", api.ErrName},
		{name + "a", "/", "", "", api.ErrName},
		{name + ".b:8", "/", "", "", api.ErrName},
		{name, "/", "", "http://" + name + "/", api.OK},
		{name[:62] + ".b", "/", "", "http://" + name[:62] + ".b/", api.OK},
		{"A", long + "b", "#", "", api.ErrName},
		{"A", "x", "", "", api.ErrName},
		{"A", "/", "#", "", api.ErrName},
		{"a", "", "", "", api.ErrDots},
		{"a", "?", "", "", api.ErrDots},
		{"a", "//", "", "", api.ErrDots},
		{"a", "/.", "", "", api.ErrDots},
		{"a", "/b/../c", "", "", api.ErrDots},
		{"a", long, "", "http://a" + long, api.OK},
		{"a", long + "b", "", "", api.ErrLong},
		{"a", long + "/..", "", "", api.ErrLong},
		{"a", strings.Repeat("x", 129), "#", "", api.ErrLong},
		{"a", strings.Repeat("x", 128), "#", "", api.ErrDots},
		{"a", "/" + strings.Repeat(" ", 127), "", "http://a/" + strings.Repeat("%20", 127), api.OK},
		{"a", "/" + strings.Repeat(" ", 128), "", "", api.ErrLong},
		{"a", "x", strings.Repeat("q", 129), "", api.ErrDots},
		{"a", "/", strings.Repeat("q", 128), "http://a/?" + strings.Repeat("q", 128), api.OK},
		{"a", "/", strings.Repeat("q", 129), "", api.ErrLong},
		{"a", "/", strings.Repeat("#", 129), "", api.ErrLong},
		{"a", "/", strings.Repeat("#", 128), "", api.ErrForm},
		{"a", "/", "\x7f", "", api.ErrForm},
		{"a", "/", "q\r\n", "", api.ErrForm},
		{"a", "/", "é", "", api.ErrForm},
	} {
		if s, e := location.Build(c.host, c.path, c.query); s != c.want || e != c.e {
			t.Errorf("%.80q %.80q %.80q: %.80q %v", c.host, c.path, c.query, s, e)
		}
	}
}

func TestSplit(t *testing.T) {
	long := "/" + strings.Repeat("b", 127)
	for s, want := range map[string]parts{
		"http://a.b/x%20y?z":                          {"a.b", "/x y", "z"},
		"http://a/":                                   {"a", "/", ""},
		"http://a:81/?/":                              {"a:81", "/", "/"},
		"http://a/b/?c?d":                             {"a", "/b/", "c?d"},
		"http://a/??":                                 {"a", "/", "?"},
		"http://a/%3F?%3f":                            {"a", "/?", "%3f"},
		"http://a/%25?%":                              {"a", "/%", "%"},
		"http://a/%2541":                              {"a", "/%41", ""},
		"http://a/%00%0D%0A":                          {"a", "/\x00\r\n", ""},
		"http://a/?http://b/":                         {"a", "/", "http://b/"},
		"http://a/http:":                              {"a", "/http:", ""},
		"http://a.b-c.d:65535/x?y=z&":                 {"a.b-c.d:65535", "/x", "y=z&"},
		"http://a" + long:                             {"a", long, ""},
		"http://a" + strings.Repeat("/%20", 64):       {"a", strings.Repeat("/ ", 64), ""},
		"http://a/?" + strings.Repeat("?", 128):       {"a", "/", strings.Repeat("?", 128)},
		"http://a/" + strings.Repeat("%FF", 127):      {"a", "/" + strings.Repeat("\xff", 127), ""},
		"http://" + strings.Repeat("a", 63) + "/?%41": {strings.Repeat("a", 63), "/", "%41"},
	} {
		if name, path, query, e := location.Split(s); (parts{name, path, query}) != want || e != api.OK {
			t.Errorf("%.80q: %.80q %.80q %.80q %v", s, name, path, query, e)
		}
	}
	for _, s := range []string{"http://a.b/x%20y?", "http://a.b", "https://a.b/", "http://a.b/%41"} {
		if name, path, query, e := location.Split(s); (parts{name, path, query}) != (parts{}) || e != api.ErrForm {
			t.Errorf("%q: %q %q %q %v", s, name, path, query, e)
		}
	}
}

// P17.2

func TestOwn(t *testing.T) {
	for _, c := range []struct {
		s, host string
		is      bool
		e       api.Errno
	}{
		{"http://a.b/", "a.b", true, api.OK},
		{"http://a.b/", "c.b", false, api.OK},
		{"http://a.b/x?y", "a.b", true, api.OK},
		{"http://a:81/", "a:81", true, api.OK},
		{"http://a:81/", "a", false, api.OK},
		{"http://a/", "a:81", false, api.OK},
		{"http://a/", "aa", false, api.OK},
		{"http://aa/", "a", false, api.OK},
		{"http://a.b/", "b", false, api.OK},
		{"http://a.b/", "A.b", false, api.ErrName},
		{"http://a.b/", "a.b:80", false, api.ErrName},
		{"http://a.b/", "", false, api.ErrName},
		{"http://a.b/", "a.b/", false, api.ErrName},
		{"http://a.b/", strings.Repeat("a", 65), false, api.ErrName},
		{"http://a.b", "a.b", false, api.ErrForm},
		{"http://A.b/", "a.b", false, api.ErrForm},
		{"http://a.b/?", "a.b", false, api.ErrForm},
		{"http://a.b/?", "A.b", false, api.ErrForm},
		{"", "", false, api.ErrForm},
	} {
		if is, e := location.Own(c.s, c.host); is != c.is || e != c.e {
			t.Errorf("%q, %.80q: %v %v", c.s, c.host, is, e)
		}
	}
}

func TestSafe(t *testing.T) {
	for s, want := range map[string]bool{
		"a\r":                              false,
		"":                                 true,
		"a":                                true,
		"a b\t":                            true,
		"\x01\x09\x0b\x0c\x0e\x1f\x7f":     true,
		"\x80\x8a\x8d\xff":                 true,
		"é":                                true,
		"\r":                               false,
		"\n":                               false,
		"\x00":                             false,
		"a\nb":                             false,
		"\x00a":                            false,
		strings.Repeat("a", 9999):          true,
		strings.Repeat("a", 9999) + "\n":   false,
		"\x00" + strings.Repeat("a", 9999): false,
	} {
		if location.Safe(s) != want {
			t.Errorf("%.80q: not %v", s, want)
		}
	}
	for b := range 256 {
		one := string([]byte{byte(b)})
		want := b != 0 && b != 10 && b != 13
		if location.Safe(one) != want || location.Safe("a"+one+"b") != want {
			t.Errorf("%q: not %v", one, want)
		}
	}
}

func TestStay(t *testing.T) {
	s := location.Stay()
	for b := range 256 {
		want := 'a' <= b && b <= 'z' || 'A' <= b && b <= 'Z' || '0' <= b && b <= '9' || strings.IndexByte("-._~!$&'()*+,;=:@/", byte(b)) >= 0
		if byteset.Has(s, byte(b)) != want {
			t.Errorf("%q: not %v", rune(b), want)
		}
	}
	if n := byteset.Count(s); n != 26+26+10+18 {
		t.Error(n)
	}
}

func TestQuery(t *testing.T) {
	long := strings.Repeat("~", 128)
	for _, c := range []struct {
		s  string
		is bool
		e  api.Errno
	}{
		{"a?b", true, api.OK},
		{"a#", false, api.OK},
		{"", true, api.OK},
		{"?", true, api.OK},
		{"!\"$%&'()*+,-./:;<=>?@[\\]^_`{|}~", true, api.OK},
		{"azAZ09", true, api.OK},
		{"%zz%", true, api.OK},
		{" ", false, api.OK},
		{"#", false, api.OK},
		{"a b", false, api.OK},
		{"\x7f", false, api.OK},
		{"\x80", false, api.OK},
		{"é", false, api.OK},
		{"\x00", false, api.OK},
		{"a\r\n", false, api.OK},
		{long, true, api.OK},
		{long[1:] + "#", false, api.OK},
		{long + "~", false, api.ErrLong},
		{long + "#", false, api.ErrLong},
		{strings.Repeat(" ", 129), false, api.ErrLong},
	} {
		if is, e := location.Query(c.s); is != c.is || e != c.e {
			t.Errorf("%.80q: %v %v", c.s, is, e)
		}
	}
}

// Arguments stay as they are, and no result is a part of them (R4).
func TestMemory(t *testing.T) {
	for _, p := range []parts{{"a", "/", ""}, {"a.b:81", "/c", "d"}, {"a", "/c d", "%"}} {
		s, e := location.Build(p.host, p.path, p.query)
		if e != api.OK || !isNew(s, p.host) || !isNew(s, p.path) || !isNew(s, p.query) {
			t.Errorf("%v: %q %v", p, s, e)
		}
		name, path, query, e := location.Split(s)
		if e != api.OK || !isNew(name, s) || !isNew(path, s) || !isNew(query, s) {
			t.Errorf("%q: %q %q %q %v", s, name, path, query, e)
		}
	}
	one, two := location.Stay(), location.Stay()
	one[0] = 0
	if two == one || location.Stay() != two {
		t.Error("a change of one set changes another one")
	}
}

// someParts are parts of many Locations.
func someParts() []parts {
	var l []parts
	for _, name := range only(hosts(), isHost) {
		for _, path := range only(paths(), isPath) {
			for _, query := range only(queries(), isQuery) {
				l = append(l, parts{name, path, query})
			}
		}
	}
	for _, p := range append(randomParts(10000), ofLengths()...) {
		if isHost(p.host) && isPath(p.path) && isQuery(p.query) {
			l = append(l, p)
		}
	}
	for _, path := range only(shortTexts("a/.%? \xff", 5), isPath) {
		for _, query := range []string{"", "?", "a"} {
			l = append(l, parts{"a", path, query})
		}
	}
	return l
}

// P17.3

func TestSplitOfBuild(t *testing.T) {
	for _, p := range someParts() {
		s, e := location.Build(p.host, p.path, p.query)
		name, path, query, f := location.Split(s)
		if e != api.OK || f != api.OK || (parts{name, path, query}) != p {
			t.Fatalf("%.200v: %.200q %v, %.80q %.80q %.80q %v", p, s, e, name, path, query, f)
		}
	}
}

func TestBuildOfSplit(t *testing.T) {
	found := 0
	for _, s := range append(append(samples(20000), everyByte()...), everyEscape()...) {
		name, path, query, e := location.Split(s)
		if e != api.OK {
			continue
		}
		found++
		if again, e := location.Build(name, path, query); again != s || e != api.OK {
			t.Fatalf("%q: %q %v", s, again, e)
		}
	}
	if found < 3000 {
		t.Error(found)
	}
}

// P17.4

func TestPrintable(t *testing.T) {
	for _, p := range someParts() {
		s, e := location.Build(p.host, p.path, p.query)
		if e != api.OK || !location.Safe(s) {
			t.Fatalf("%.200v: %.200q %v", p, s, e)
		}
		for i := range len(s) {
			if s[i] < 33 || s[i] > 126 {
				t.Fatalf("%.200v: %.200q", p, s)
			}
		}
	}
}

// P17.5

func TestDifferent(t *testing.T) {
	from := map[string]parts{}
	for _, p := range someParts() {
		s, e := location.Build(p.host, p.path, p.query)
		if other, has := from[s]; e != api.OK || has && other != p {
			t.Fatalf("%.200q: %.200v, %.200v %v", s, p, other, e)
		}
		from[s] = p
	}
	if len(from) < 10000 {
		t.Error(len(from))
	}
}

// P17.6

func TestLongest(t *testing.T) {
	most := 7 + api.MaxHost + 3*api.MaxPath + 1 + api.MaxQuery
	longest := 0
	for _, p := range someParts() {
		s, e := location.Build(p.host, p.path, p.query)
		if e != api.OK || len(s) > most {
			t.Fatalf("%.200v: %d %v", p, len(s), e)
		}
		longest = max(longest, len(s))
	}
	// The first slash of a path stays.
	if longest < most-2 {
		t.Error(longest)
	}
}

// What Build and Split accept is what the packages on which they build say.
func TestLowerLayers(t *testing.T) {
	for _, p := range append(randomParts(10000), ofLengths()...) {
		s, e := location.Build(p.host, p.path, p.query)
		may, f := location.Query(p.query)
		normal, _ := host.Normal(p.host)
		is := normal == p.host && p.host != "" && dots.Normal(p.path) && may && f == api.OK
		if (e == api.OK) != is {
			t.Fatalf("%.200v: %v", p, e)
		}
		code := percent.Encode(p.path, location.Stay())
		if is && !strings.HasPrefix(s, "http://"+p.host+code) {
			t.Fatalf("%.200v: %.200q", p, s)
		}
	}
}
