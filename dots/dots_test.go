package dots_test

import (
	"math/rand"
	"slices"
	"strings"
	"testing"
	"unsafe"

	"waypost/api"
	"waypost/dots"
)

// P14.1 to P14.3

func TestShortTexts(t *testing.T) {
	for _, s := range shortTexts("/.a", 9) {
		check(t, s)
	}
	for _, s := range shortTexts("/.a\x00B", 6) {
		check(t, s)
	}
}

func TestPairs(t *testing.T) {
	l := normals("/.ab", 5)
	for _, p := range l {
		for _, q := range l {
			checkTwo(t, p, q)
		}
	}
	l = shortTexts("/.a", 4)
	for _, p := range l {
		for _, q := range l {
			checkTwo(t, p, q)
			checkJoin(t, p, q)
		}
	}
}

func TestEveryByte(t *testing.T) {
	l := everyByte()
	for i, s := range l {
		check(t, s)
		checkTwo(t, s, "/a")
		checkTwo(t, "/a", s)
		checkTwo(t, s, l[(i+22)%len(l)])
		checkJoin(t, s, "b")
		checkJoin(t, "/b", s)
		checkJoin(t, "/", strings.Trim(s, "/"))
		checkMake(t, []string{s})
		checkMake(t, []string{"a", strings.Trim(s, "/"), "b"})
	}
}

func TestSamples(t *testing.T) {
	r := rand.New(rand.NewSource(1))
	l := samples(20000)
	kept := only(l, isNormal)
	for _, s := range l {
		check(t, s)
		checkTwo(t, s, l[r.Intn(len(l))])
		checkJoin(t, kept[r.Intn(len(kept))], strings.Trim(s, "/"))
		checkMake(t, strings.Split(strings.Trim(s, "/"), "/"))
	}
	for range 50000 {
		checkTwo(t, kept[r.Intn(len(kept))], kept[r.Intn(len(kept))])
	}
}

func TestLengths(t *testing.T) {
	l := ofLengths()
	for _, p := range l {
		check(t, p)
		checkMake(t, strings.Split(strings.Trim(p, "/"), "/"))
		for _, q := range l {
			checkTwo(t, p, q)
			checkJoin(t, p, strings.ReplaceAll(q, "/", "x"))
		}
	}
}

// P14.1

func TestNormal(t *testing.T) {
	for p, want := range map[string]bool{
		"/":                            true,
		"/a/b":                         true,
		"/a/":                          true,
		"/a//b":                        false,
		"/a/./b":                       false,
		"/a/..":                        false,
		"a":                            false,
		"":                             false,
		"/.a":                          true,
		"/a.":                          true,
		"/...":                         true,
		"/..a/a../.../":                true,
		"//":                           false,
		"//a":                          false,
		"/a//":                         false,
		"/.":                           false,
		"/./":                          false,
		"/..":                          false,
		"/../":                         false,
		"/../a":                        false,
		"/a/.":                         false,
		"/a/../b":                      false,
		"a/b":                          false,
		" /a":                          false,
		"\\a":                          false,
		"/a\\..\\b":                    true,
		"/%2e%2e/%2F":                  true,
		"/ /\t/\x00/\xff":              true,
		"/a?b#c":                       true,
		"/\u2044/é":                    true,
		"/" + strings.Repeat("x", 127): true,
		"/" + strings.Repeat("x", 128): false,
		strings.Repeat("/x", 64):       true,
		strings.Repeat("/x", 64) + "/": false,
		strings.Repeat("/x", 63) + "/": true,
		strings.Repeat("/x", 100000):   false,
	} {
		if dots.Normal(p) != want {
			t.Errorf("%.80q", p)
		}
	}
}

func TestClean(t *testing.T) {
	for p, want := range map[string]string{
		"/":                            "/",
		"/a//../b":                     "/b",
		"/a/b/.":                       "/a/b/",
		"/a/b/..":                      "/a/",
		"//":                           "/",
		"/.":                           "/",
		"/./":                          "/",
		"/./.":                         "/",
		"/a":                           "/a",
		"/a/":                          "/a/",
		"/a//":                         "/a/",
		"//a":                          "/a",
		"/a/..":                        "/",
		"/a/../":                       "/",
		"/a/../.":                      "/",
		"/a/../b":                      "/b",
		"/a/b/../../c/":                "/c/",
		"/a/./b":                       "/a/b",
		"///a///b///":                  "/a/b/",
		"/.../.a/a./..a":               "/.../.a/a./..a",
		"/a/b/c/../d/../e":             "/a/b/e",
		"/a/b/../c/../../d":            "/d",
		"/a\\..":                       "/a\\..",
		"/%2e%2e":                      "/%2e%2e",
		"/ /..":                        "/",
		"/\x00/\xff/../b":              "/\x00/b",
		"/" + strings.Repeat("x", 300): "/" + strings.Repeat("x", 300),
	} {
		if s, e := dots.Clean(p); s != want || e != api.OK {
			t.Errorf("%.80q: %.80q %v", p, s, e)
		}
	}
}

func TestCleanErrors(t *testing.T) {
	for p, want := range map[string]api.Errno{
		"":                api.ErrForm,
		"a":               api.ErrForm,
		"a/..":            api.ErrForm,
		"..":              api.ErrForm,
		"../..":           api.ErrForm,
		".":               api.ErrForm,
		" /":              api.ErrForm,
		"/..":             api.ErrDots,
		"/../":            api.ErrDots,
		"/../a":           api.ErrDots,
		"//..":            api.ErrDots,
		"/./..":           api.ErrDots,
		"/a/../..":        api.ErrDots,
		"/a/../../b":      api.ErrDots,
		"/a/../../b/../c": api.ErrDots,
		"/a/b/../../../":  api.ErrDots,
	} {
		if s, e := dots.Clean(p); s != "" || e != want {
			t.Errorf("%q: %q %v", p, s, e)
		}
	}
}

// Clean takes paths of any length; the last one goes up and down so often that a copy of what is kept each time would take too long.
func TestCleanLong(t *testing.T) {
	const n = 300000
	deep := strings.Repeat("/a", n)
	for p, want := range map[string]string{
		deep:                                    deep,
		deep + "/":                              deep + "/",
		strings.Repeat("/", n):                  "/",
		strings.Repeat("/.", n):                 "/",
		"/b" + strings.Repeat("//./", n):        "/b/",
		deep + strings.Repeat("/..", n):         "/",
		deep + strings.Repeat("/..", n) + "/b":  "/b",
		deep + strings.Repeat("/../b/../a", n):  deep,
		strings.Repeat("/a/..", n):              "/",
		"/" + strings.Repeat("x", n) + "/../y/": "/y/",
	} {
		if s, e := dots.Clean(p); s != want || e != api.OK {
			t.Errorf("%.20q of %d bytes: %.20q %v", p, len(p), s, e)
		}
	}
	if s, e := dots.Clean(deep + strings.Repeat("/..", n+1)); s != "" || e != api.ErrDots {
		t.Errorf("%.20q %v", s, e)
	}
}

// P14.2

func TestSegments(t *testing.T) {
	for p, want := range map[string][]string{
		"/":             nil,
		"/a":            {"a"},
		"/a/":           {"a"},
		"/a/b":          {"a", "b"},
		"/a/b/":         {"a", "b"},
		"/a/a/A":        {"a", "a", "A"},
		"/.../ /\x00/é": {"...", " ", "\x00", "é"},
	} {
		if l, e := dots.Segments(p); !slices.Equal(l, want) || e != api.OK {
			t.Errorf("%q: %q %v", p, l, e)
		}
	}
}

func TestParent(t *testing.T) {
	for p, want := range map[string]string{"/a/b": "/a", "/a/b/": "/a", "/a": "/", "/a/": "/", "/a/b/c": "/a/b", "/.a/.../": "/.a"} {
		if s, e := dots.Parent(p); s != want || e != api.OK {
			t.Errorf("%q: %q %v", p, s, e)
		}
	}
	if s, e := dots.Parent("/"); s != "" || e != api.ErrMissing {
		t.Errorf("%q %v", s, e)
	}
}

func TestCommon(t *testing.T) {
	for _, c := range [][3]string{
		{"/a/b/c", "/a/b/d", "/a/b"},
		{"/a/", "/a/b", "/a"},
		{"/a", "/b", "/"},
		{"/a", "/a/b", "/a"},
		{"/a", "/a", "/a"},
		{"/a/", "/a/", "/a"},
		{"/a/", "/a", "/a"},
		{"/", "/", "/"},
		{"/", "/a/", "/"},
		{"/ab", "/a", "/"},
		{"/a/bc", "/a/b", "/a"},
		{"/a/x/c", "/a/y/c", "/a"},
		{"/a", "/A", "/"},
		{"/b/a", "/a/b", "/"},
	} {
		for range 2 {
			if s, e := dots.Common(c[0], c[1]); s != c[2] || e != api.OK {
				t.Errorf("%q and %q: %q %v", c[0], c[1], s, e)
			}
			c[0], c[1] = c[1], c[0]
		}
	}
}

func TestNotNormal(t *testing.T) {
	for _, p := range []string{"", "a", "a/b", "//", "/a//b", "/.", "/a/..", "/../a", "/a/./b", "/" + strings.Repeat("x", 128)} {
		l, e := dots.Segments(p)
		if l != nil || e != api.ErrForm {
			t.Errorf("%.80q: segments %q %v", p, l, e)
		}
		parent, e := dots.Parent(p)
		if parent != "" || e != api.ErrForm {
			t.Errorf("%.80q: parent %q %v", p, parent, e)
		}
		for _, other := range []string{"/", "/a", p} {
			one, e := dots.Common(p, other)
			two, f := dots.Common(other, p)
			if one != "" || two != "" || e != api.ErrForm || f != api.ErrForm {
				t.Errorf("%.80q and %.80q: common %q %v, %q %v", p, other, one, e, two, f)
			}
			is, e := dots.Under(p, other)
			was, f := dots.Under(other, p)
			if is || was || e != api.ErrForm || f != api.ErrForm {
				t.Errorf("%.80q and %.80q: under %v %v, %v %v", p, other, is, e, was, f)
			}
		}
		if s, e := dots.Join(p, "a"); s != "" || e != api.ErrForm {
			t.Errorf("%.80q: join %q %v", p, s, e)
		}
	}
}

// P14.3

func TestUnder(t *testing.T) {
	for _, c := range []struct {
		p, dir string
		is     bool
		e      api.Errno
	}{
		{"/a/b", "/a", true, api.OK},
		{"/ab", "/a", false, api.OK},
		{"/a", "/a", true, api.OK},
		{"/a/", "/a", true, api.OK},
		{"/b", "/", true, api.OK},
		{"/", "/", true, api.OK},
		{"/a/b/c/", "/a/b", true, api.OK},
		{"/a", "/a/b", false, api.OK},
		{"/", "/a", false, api.OK},
		{"/A", "/a", false, api.OK},
		{"/b/a", "/a", false, api.OK},
		{"/a", "/a/", false, api.ErrForm},
		{"/a/b", "/a/", false, api.ErrForm},
		{"/a/", "/a/", false, api.ErrForm},
		{"/a//b", "/a", false, api.ErrForm},
		{"/a", "", false, api.ErrForm},
		{"", "/", false, api.ErrForm},
		{"a", "a", false, api.ErrForm},
	} {
		if is, e := dots.Under(c.p, c.dir); is != c.is || e != c.e {
			t.Errorf("%q under %q: %v %v", c.p, c.dir, is, e)
		}
	}
}

func TestJoin(t *testing.T) {
	long := strings.Repeat("x", 127)
	for _, c := range []struct {
		dir, name, want string
		e               api.Errno
	}{
		{"/a", "b", "/a/b", api.OK},
		{"/", "b", "/b", api.OK},
		{"/a/b", "...", "/a/b/...", api.OK},
		{"/a", " ", "/a/ ", api.OK},
		{"/a", "\x00\xff", "/a/\x00\xff", api.OK},
		{"/a", "..", "", api.ErrForm},
		{"/a", ".", "", api.ErrForm},
		{"/a", "", "", api.ErrForm},
		{"/a", "/", "", api.ErrForm},
		{"/a", "b/", "", api.ErrForm},
		{"/a", "/b", "", api.ErrForm},
		{"/a", "b/c", "", api.ErrForm},
		{"/a/", "b", "", api.ErrForm},
		{"a", "b", "", api.ErrForm},
		{"", "b", "", api.ErrForm},
		{"/", long, "/" + long, api.OK},
		{"/", long + "x", "", api.ErrLong},
		{"/a", long[2:], "/a/" + long[2:], api.OK},
		{"/a", long[1:], "", api.ErrLong},
		{"/" + long, "a", "", api.ErrLong},
		{"/" + long, "", "", api.ErrForm},
		{"/" + long + "x", "a", "", api.ErrForm},
		{"/a", long + long + "/", "", api.ErrForm},
		{"/a/", long + long, "", api.ErrForm},
	} {
		if s, e := dots.Join(c.dir, c.name); s != c.want || e != c.e {
			t.Errorf("%.20q and %.20q: %.20q %v", c.dir, c.name, s, e)
		}
	}
}

func TestMake(t *testing.T) {
	for _, c := range []struct {
		segments   []string
		shut, open string
	}{
		{nil, "/", "/"},
		{[]string{}, "/", "/"},
		{[]string{"a"}, "/a", "/a/"},
		{[]string{"a", "b"}, "/a/b", "/a/b/"},
		{[]string{"...", ".a", "a."}, "/.../.a/a.", "/.../.a/a./"},
		{[]string{" ", "\x00", "\xff"}, "/ /\x00/\xff", "/ /\x00/\xff/"},
	} {
		s, e := dots.Make(c.segments, false)
		o, f := dots.Make(c.segments, true)
		if s != c.shut || o != c.open || e != api.OK || f != api.OK {
			t.Errorf("%q: %q %v, %q %v", c.segments, s, e, o, f)
		}
	}
}

func TestMakeLists(t *testing.T) {
	long := strings.Repeat("x", 62)
	pieces := []string{"a", "b.", "...", "", ".", "..", "/", "a/b", long, long + "x", long + "xx", strings.Repeat("y", 126), strings.Repeat("y", 127), strings.Repeat("y", 128)}
	for _, a := range pieces {
		checkMake(t, []string{a})
		for _, b := range pieces {
			checkMake(t, []string{a, b})
			for _, c := range pieces {
				checkMake(t, []string{a, b, c})
			}
		}
	}
	for n := range 200 {
		checkMake(t, slices.Repeat([]string{"x"}, n))
		checkMake(t, append(slices.Repeat([]string{"x"}, n), "."))
	}
	checkMake(t, slices.Repeat([]string{strings.Repeat("x", 1000)}, 1000))
}

// P14.4

func TestCleanIsNormal(t *testing.T) {
	l := slices.Concat(shortTexts("/.a", 8), samples(20000), ofLengths(), everyByte())
	for _, p := range l {
		s, e := dots.Clean(p)
		if e != api.OK {
			continue
		}
		if dots.Normal(s) != (len(s) <= 128) {
			t.Fatalf("%.80q: %.80q", p, s)
		}
		if dots.Normal(p) && s != p {
			t.Fatalf("%.80q: %.80q", p, s)
		}
		if again, e := dots.Clean(s); again != s || e != api.OK {
			t.Fatalf("%.80q: %.80q, %.80q %v", p, s, again, e)
		}
	}
}

// P14.5

func TestMakeOfSegments(t *testing.T) {
	l := slices.Concat(normals("/.a\xff", 7), only(slices.Concat(samples(20000), ofLengths()), isNormal))
	for _, p := range l {
		segments, e := dots.Segments(p)
		s, f := dots.Make(segments, strings.HasSuffix(p, "/"))
		if s != p || e != api.OK || f != api.OK {
			t.Fatalf("%.80q: %q %v, %.80q %v", p, segments, e, s, f)
		}
	}
}

// P14.6

func TestUnderIsAnOrder(t *testing.T) {
	dirs := directories("/.ab", 4)
	under := func(p, dir string) bool {
		is, e := dots.Under(p, dir)
		if e != api.OK {
			t.Fatalf("%q under %q: %v", p, dir, e)
		}
		return is
	}
	for _, d := range dirs {
		if !under(d, d) || !under(d, "/") {
			t.Fatalf("%q", d)
		}
	}
	for _, p := range normals("/.ab", 5) {
		over := only(dirs, func(d string) bool { return under(p, d) })
		for _, d := range over {
			for _, upper := range dirs {
				if under(d, upper) && !under(p, upper) {
					t.Fatalf("%q, %q, %q", p, d, upper)
				}
			}
			for _, other := range over {
				if !under(d, other) && !under(other, d) {
					t.Fatalf("%q, %q, %q", p, d, other)
				}
				if d != other && under(d, other) && under(other, d) {
					t.Fatalf("%q, %q", d, other)
				}
			}
		}
	}
}

// P14.7

func TestParentOfJoin(t *testing.T) {
	names := only(shortTexts(".a/\x00", 3), isSegment)
	for _, dir := range directories("/.ab", 5) {
		for _, name := range names {
			p, e := dots.Join(dir, name)
			s, f := dots.Parent(p)
			if s != dir || e != api.OK || f != api.OK {
				t.Fatalf("%q and %q: %q %v, %q %v", dir, name, p, e, s, f)
			}
		}
	}
}

// P14.8

func TestCommonIsDeepest(t *testing.T) {
	dirs := directories("/.ab", 4)
	l := normals("/.ab", 5)
	for _, a := range l {
		overA := only(dirs, func(d string) bool { is, _ := dots.Under(a, d); return is })
		for _, b := range l {
			common, e := dots.Common(a, b)
			is, f := dots.Under(shut(a), common)
			also, g := dots.Under(shut(b), common)
			if !is || !also || e != api.OK || f != api.OK || g != api.OK {
				t.Fatalf("%q and %q: %q %v, %v %v, %v %v", a, b, common, e, is, f, also, g)
			}
			for _, d := range overA {
				below, _ := dots.Under(d, common)
				both, _ := dots.Under(b, d)
				if below && both && d != common {
					t.Fatalf("%q and %q: %q, not %q", a, b, d, common)
				}
			}
		}
	}
}

// R4

func TestArgumentsStay(t *testing.T) {
	all := []string{"a", "b", "c", "d"}
	before := slices.Clone(all)
	for n := range len(all) {
		if _, e := dots.Make(all[:n], true); e != api.OK || !slices.Equal(all, before) {
			t.Errorf("%d: %v, %q", n, e, all)
		}
	}
}

func TestResultsAreNew(t *testing.T) {
	p := strings.Clone("/a/b/c")
	if s, _ := dots.Clean(p); !isNew(s, p) {
		t.Error("Clean")
	}
	if s, _ := dots.Parent(p); !isNew(s, p) {
		t.Error("Parent")
	}
	if s, _ := dots.Common(p, p); !isNew(s, p) {
		t.Error("Common")
	}
	if s, _ := dots.Join("/", p[1:2]); !isNew(s, p) {
		t.Error("Join")
	}
	if s, _ := dots.Make([]string{p[1:2]}, false); !isNew(s, p) {
		t.Error("Make")
	}
	l, _ := dots.Segments(p)
	m, _ := dots.Segments(p)
	for _, s := range l {
		if !isNew(s, p) {
			t.Error("Segments")
		}
	}
	if unsafe.SliceData(l) == unsafe.SliceData(m) {
		t.Error("Segments twice")
	}
}
