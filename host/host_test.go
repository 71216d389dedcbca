package host_test

import (
	"math"
	"math/rand"
	"slices"
	"strings"
	"testing"
	"unsafe"

	"waypost/api"
	"waypost/host"
)

// P15.1 to P15.4

func TestShortTexts(t *testing.T) {
	for _, s := range shortTexts("aB.-:08", 6) {
		check(t, s)
	}
	for _, s := range shortTexts("a.-", 9) {
		check(t, s)
	}
	for _, s := range shortTexts("0678", 6) {
		check(t, "a:"+s)
	}
}

func TestPairs(t *testing.T) {
	l := withPorts(only(shortTexts("aB.", 3), isHost))
	for _, a := range l {
		for _, b := range l {
			checkTwo(t, a, b)
		}
	}
	l = only(shortTexts("ab.-", 5), isHost)
	for _, a := range l {
		for _, b := range l {
			checkTwo(t, a, b)
		}
	}
}

func TestOrderOfErrors(t *testing.T) {
	l := append(wrong(), "a", "A.b:81", strings.Repeat("a", 62)+":80", strings.Repeat("a", 62)+":8080")
	for _, a := range l {
		check(t, a)
		for _, port := range []int{-1, 0, 1, 80, 81, 65535, 65536} {
			checkJoin(t, a, port)
		}
		for _, b := range l {
			checkTwo(t, a, b)
		}
	}
}

func TestEveryByte(t *testing.T) {
	l := everyByte()
	for i, s := range l {
		check(t, s)
		checkJoin(t, s, 81)
		checkTwo(t, s, "a")
		checkTwo(t, "a.b", s)
		checkTwo(t, s, l[(i+24)%len(l)])
		checkTwo(t, s, l[(i+1)%len(l)])
		checkTwo(t, s, strings.ToUpper(s))
	}
}

func TestSamples(t *testing.T) {
	r := rand.New(rand.NewSource(1))
	l := samples(20000)
	kept := only(l, isHost)
	if len(kept) < 3000 {
		t.Fatal(len(kept))
	}
	for _, s := range l {
		check(t, s)
		checkTwo(t, s, l[r.Intn(len(l))])
		checkJoin(t, s, r.Intn(1<<r.Intn(18)+1))
	}
	for range 20000 {
		a, b := kept[r.Intn(len(kept))], kept[r.Intn(len(kept))]
		checkTwo(t, a, b)
		checkTwo(t, a, strings.ToUpper(a))
		name, _, _ := strings.Cut(a, ":")
		checkTwo(t, name+"."+b, b)
		checkTwo(t, name+b, b)
		checkTwo(t, b, name+"."+b)
		checkJoin(t, name, 1+r.Intn(65535))
	}
}

func TestLengths(t *testing.T) {
	r := rand.New(rand.NewSource(2))
	l := ofLengths()
	for _, s := range l {
		check(t, s)
		for range 10 {
			checkTwo(t, s, l[r.Intn(len(l))])
		}
		for _, port := range []int{0, 1, 80, 81, 443, 8080, 65535, 65536} {
			checkJoin(t, s, port)
		}
	}
	kept := only(l, isHost)
	for _, a := range kept[:len(kept)/2] {
		for range 10 {
			checkTwo(t, a, kept[r.Intn(len(kept))])
		}
	}
}

func TestVeryLong(t *testing.T) {
	for _, s := range []string{"a", "-", ".", ":", "a.", "a:", "\xff"} {
		long := strings.Repeat(s, 1<<20)
		check(t, long)
		checkTwo(t, long, "-")
		checkTwo(t, "a", long)
		checkTwo(t, "a:0", long)
		checkJoin(t, long, 0)
	}
}

// P15.1

func TestSplit(t *testing.T) {
	long := strings.Repeat("a", 63)
	for _, c := range []struct {
		s, name string
		port    int
		e       api.Errno
	}{
		{"WWW.a.Org:0080", "www.a.org", 80, api.OK},
		{"a", "a", 80, api.OK},
		{"a:", "", 0, api.ErrForm},
		{"a..b", "", 0, api.ErrForm},
		{"-a", "", 0, api.ErrForm},
		{"a:0", "", 0, api.ErrRange},
		{"a:65536", "", 0, api.ErrRange},
		{"a:123456", "", 0, api.ErrForm},
		{"a_b", "", 0, api.ErrForm},
		{"", "", 0, api.ErrForm},
		{":80", "", 0, api.ErrForm},
		{".", "", 0, api.ErrForm},
		{"a.", "", 0, api.ErrForm},
		{".a", "", 0, api.ErrForm},
		{"-", "", 0, api.ErrForm},
		{"a-", "", 0, api.ErrForm},
		{"a-.b", "", 0, api.ErrForm},
		{"a.-b", "", 0, api.ErrForm},
		{"a--b", "a--b", 80, api.OK},
		{"0", "0", 80, api.OK},
		{"127.0.0.1:1", "127.0.0.1", 1, api.OK},
		{"a:00001", "a", 1, api.OK},
		{"a:00000", "", 0, api.ErrRange},
		{"a:000080", "", 0, api.ErrForm},
		{"a:65535", "a", 65535, api.OK},
		{"a:99999", "", 0, api.ErrRange},
		{"a:99999999999999999999", "", 0, api.ErrForm},
		{"a:1:2", "", 0, api.ErrForm},
		{"a:-1", "", 0, api.ErrForm},
		{"a:+1", "", 0, api.ErrForm},
		{"a: 1", "", 0, api.ErrForm},
		{"a:0x1", "", 0, api.ErrForm},
		{" a", "", 0, api.ErrForm},
		{"a ", "", 0, api.ErrForm},
		{"\u212a", "", 0, api.ErrForm},
		{"é", "", 0, api.ErrForm},
		{long, long, 80, api.OK},
		{strings.ToUpper(long) + ":7", long, 7, api.OK},
		{long + "a", "", 0, api.ErrForm},
		{long[1:] + ".b:9", long[1:] + ".b", 9, api.OK},
		{long + ".b", "", 0, api.ErrLong},
		{long + ".b:0", "", 0, api.ErrLong},
		{long + ".b:65536", "", 0, api.ErrLong},
		{long + ".b:123456", "", 0, api.ErrForm},
		{long + ".b:", "", 0, api.ErrForm},
		{long + ".b_", "", 0, api.ErrForm},
		{"_." + long + ".b", "", 0, api.ErrForm},
		{long + "." + long + ":", "", 0, api.ErrForm},
		{long + "." + long + ".", "", 0, api.ErrForm},
		{long + "." + long + ":1", "", 0, api.ErrLong},
		{long + "." + long + ":0", "", 0, api.ErrLong},
		{strings.Repeat("-", 128), "", 0, api.ErrForm},
		{strings.Repeat("-", 129), "", 0, api.ErrLong},
		{"a:" + strings.Repeat("1", 126), "", 0, api.ErrForm},
		{"a:" + strings.Repeat("1", 127), "", 0, api.ErrLong},
	} {
		if name, port, e := host.Split(c.s); name != c.name || port != c.port || e != c.e {
			t.Errorf("%.80q: %.80q %d %v", c.s, name, port, e)
		}
	}
}

// All other functions return the error of Split, whichever one it is, and nothing else with it.
func TestErrorOfSplit(t *testing.T) {
	for _, s := range wrong() {
		_, _, want := host.Split(s)
		if want == api.OK {
			t.Fatalf("%.80q", s)
		}
		text, e := host.Normal(s)
		list, f := host.Labels(s)
		joined, g := host.Join(s, 0)
		if text != "" || list != nil || joined != "" || e != want || f != want || g != want {
			t.Errorf("%.80q: %q %v, %q %v, %q %v, not %v", s, text, e, list, f, joined, g, want)
		}
		if host.Is(s) {
			t.Errorf("%.80q", s)
		}
		for _, pair := range [][2]string{{s, "a"}, {"a", s}, {s, s}} {
			same, e := host.Same(pair[0], pair[1])
			under, f := host.Under(pair[0], pair[1])
			order, g := host.Compare(pair[0], pair[1])
			if same || under || order != 0 || e != want || f != want || g != want {
				t.Errorf("%.80q: %v %v, %v %v, %v %v, not %v", pair, same, e, under, f, order, g, want)
			}
		}
	}
}

func TestFirstArgumentFirst(t *testing.T) {
	errors := map[string]api.Errno{"a:0": api.ErrRange, "a..b": api.ErrForm, strings.Repeat("a", 129): api.ErrLong}
	for a, want := range errors {
		for b := range errors {
			_, e := host.Same(a, b)
			_, f := host.Under(a, b)
			_, g := host.Compare(a, b)
			if e != want || f != want || g != want {
				t.Errorf("%.80q and %.80q: %v %v %v", a, b, e, f, g)
			}
		}
	}
}

// P15.2

func TestNormal(t *testing.T) {
	long := strings.Repeat("a", 60)
	for s, want := range map[string]string{
		"A.B:080":           "a.b",
		"A.B:8080":          "a.b:8080",
		"1.2.3.4:08":        "1.2.3.4:8",
		"a":                 "a",
		"a:80":              "a",
		"a:00080":           "a",
		"A":                 "a",
		"a:8":               "a:8",
		"a:800":             "a:800",
		"a:00001":           "a:1",
		"a:65535":           "a:65535",
		"Z-9.ORG:0443":      "z-9.org:443",
		long + ".abc":       long + ".abc",
		long + ".abc:80":    long + ".abc",
		long + ".abc:00080": long + ".abc",
		long + ":123":       long + ":123",
		long + ":00123":     long + ":123",
		long[2:] + ":12345": long[2:] + ":12345",
	} {
		if text, e := host.Normal(s); text != want || e != api.OK {
			t.Errorf("%.80q: %.80q %v", s, text, e)
		}
	}
	for s, want := range map[string]api.Errno{
		long + ":1234":       api.ErrLong,
		long + ":01234":      api.ErrLong,
		long + ".ab:1":       api.ErrLong,
		long + ".abc:1":      api.ErrLong,
		long + ".abc:79":     api.ErrLong,
		long + ".abc:65535":  api.ErrLong,
		long + ".abcd":       api.ErrLong,
		long + ".abc:65536":  api.ErrRange,
		long + ".abc:123456": api.ErrForm,
		"a:":                 api.ErrForm,
	} {
		if text, e := host.Normal(s); text != "" || e != want {
			t.Errorf("%.80q: %.80q %v", s, text, e)
		}
	}
}

func TestIs(t *testing.T) {
	long := strings.Repeat("a", 60)
	for s, want := range map[string]bool{
		"a.b:80":          false,
		"a.b:81":          true,
		"A":               false,
		"a":               true,
		"a.B":             false,
		"a:081":           false,
		"a:080":           false,
		"a:8080":          true,
		"a:65535":         true,
		"a:65536":         false,
		"a:0":             false,
		"":                false,
		"a.":              false,
		"a:":              false,
		"127.0.0.1":       true,
		long + ".abc":     true,
		long + ".abc:80":  false,
		long + ".abcd":    false,
		long + ":123":     true,
		long + ":1234":    false,
		long + ".abc:123": false,
	} {
		if host.Is(s) != want {
			t.Errorf("%.80q", s)
		}
	}
}

func TestSame(t *testing.T) {
	long := strings.Repeat("a", 62)
	for _, c := range []struct {
		a, b string
		is   bool
	}{
		{"a", "a", true},
		{"a", "A", true},
		{"a", "a:80", true},
		{"A.b:080", "a.B", true},
		{"a:81", "a:00081", true},
		{"a", "a:81", false},
		{"a:8", "a:80", false},
		{"a", "b", false},
		{"a", "a.a", false},
		{"a.a", "a", false},
		{"ab", "a.b", false},
		{"a-b", "a.b", false},
		{"x.a.org", "a.org", false},
		{long + ":8080", long + ":08080", true},
		{long + ":8080", strings.ToUpper(long) + ":8080", true},
		{long + ":8080", long + ":8081", false},
	} {
		for range 2 {
			if is, e := host.Same(c.a, c.b); is != c.is || e != api.OK {
				t.Errorf("%q and %q: %v %v", c.a, c.b, is, e)
			}
			c.a, c.b = c.b, c.a
		}
	}
}

// P15.3

func TestUnder(t *testing.T) {
	long := strings.Repeat("a", 62)
	for _, c := range []struct {
		s, domain string
		is        bool
	}{
		{"x.a.org", "A.org:99", true},
		{"xa.org", "a.org", false},
		{"a", "a", true},
		{"a:1", "a:2", true},
		{"A", "a", true},
		{"a.org", "x.a.org", false},
		{"x.a.org", "a", false},
		{"x.a.org", "x", false},
		{"x.a.org", "x.a", false},
		{"x.a.org", "org", true},
		{"X.A.ORG", "a.org", true},
		{"y.x.a.org", "a.org", true},
		{"y-a.org", "a.org", false},
		{"a.org.a", "a.org", false},
		{"a.b", "b.a", false},
		{"1.2.3.4", "3.4", true},
		{"1.2.3.4", "4", true},
		{"1.2.3.44", "4", false},
		{"b." + long + ":8080", long + ":12345", true},
		{long + ":8080", "b." + long + ":12345", false},
	} {
		if is, e := host.Under(c.s, c.domain); is != c.is || e != api.OK {
			t.Errorf("%q under %q: %v %v", c.s, c.domain, is, e)
		}
	}
}

func TestLabels(t *testing.T) {
	for s, want := range map[string][]string{
		"X.a.Org:5":  {"x", "a", "org"},
		"a":          {"a"},
		"a.a.A":      {"a", "a", "a"},
		"1.2.3.4:80": {"1", "2", "3", "4"},
		"b-c.d--e":   {"b-c", "d--e"},
	} {
		if l, e := host.Labels(s); !slices.Equal(l, want) || e != api.OK {
			t.Errorf("%q: %q %v", s, l, e)
		}
	}
}

func TestCompare(t *testing.T) {
	long := strings.Repeat("a", 62)
	for _, c := range []struct {
		a, b  string
		order int
	}{
		{"a.org", "b.org", -1},
		{"a.org", "x.a.org", -1},
		{"a.org:81", "a.org", 1},
		{"z.com", "a.org", -1},
		{"a", "a", 0},
		{"A:80", "a", 0},
		{"a:9", "a:10", -1},
		{"a:79", "a", -1},
		{"a:65535", "b:1", -1},
		{"a:65535", "a.a:1", -1},
		{"b", "a.a", 1},
		{"a", "ab", -1},
		{"a.ab", "b.a", 1},
		{"B", "a", 1},
		{"Z.a", "b.a", 1},
		{"a-b", "a.b", -1},
		{"a-b", "ab", -1},
		{"a-b", "a0", -1},
		{"9", "10", 1},
		{"9", "a", -1},
		{"x.a", "a-b", -1},
		{"x.a", "a0", -1},
		{"a.b.c", "b.a.c", 1},
		{long + ":8080", long + ":8081", -1},
	} {
		one, e := host.Compare(c.a, c.b)
		two, f := host.Compare(c.b, c.a)
		if one != c.order || two != -c.order || e != api.OK || f != api.OK {
			t.Errorf("%q and %q: %d %v, %d %v", c.a, c.b, one, e, two, f)
		}
	}
}

// P15.4

func TestJoin(t *testing.T) {
	long := strings.Repeat("a", 60)
	for _, c := range []struct {
		name string
		port int
		want string
		e    api.Errno
	}{
		{"A.b", 81, "a.b:81", api.OK},
		{"a", 0, "", api.ErrRange},
		{"a:5", 80, "", api.ErrForm},
		{"a", 80, "a", api.OK},
		{"A", 80, "a", api.OK},
		{"a", 1, "a:1", api.OK},
		{"a", 65535, "a:65535", api.OK},
		{"a", 65536, "", api.ErrRange},
		{"a", -1, "", api.ErrRange},
		{"a", -80, "", api.ErrRange},
		{"a", math.MaxInt, "", api.ErrRange},
		{"a", math.MinInt, "", api.ErrRange},
		{"a", 1<<32 + 80, "", api.ErrRange},
		{"a", 1<<16 + 80, "", api.ErrRange},
		{"a:80", 80, "", api.ErrForm},
		{"a:80", 0, "", api.ErrForm},
		{"a:0", 0, "", api.ErrRange},
		{"a:0", 80, "", api.ErrRange},
		{"a:65536", 80, "", api.ErrRange},
		{"a:", 80, "", api.ErrForm},
		{"", 80, "", api.ErrForm},
		{"a.", 0, "", api.ErrForm},
		{long + ".abc", 80, long + ".abc", api.OK},
		{long + ".abc", 8, "", api.ErrLong},
		{long + ".abc", 0, "", api.ErrRange},
		{long + ".abcd", 0, "", api.ErrLong},
		{long + ".abc:8", 8, "", api.ErrForm},
		{long, 999, long + ":999", api.OK},
		{long, 1000, "", api.ErrLong},
	} {
		if s, e := host.Join(c.name, c.port); s != c.want || e != c.e {
			t.Errorf("%.80q and %d: %.80q %v", c.name, c.port, s, e)
		}
	}
}

func TestJoinAllPorts(t *testing.T) {
	for port := -10; port <= 65546; port++ {
		checkJoin(t, "A.b", port)
	}
}

// P15.5

func TestNormalIsNormal(t *testing.T) {
	l := slices.Concat(shortTexts("aB.-:08", 5), withPorts(shortTexts("aB.", 4)), samples(20000), ofLengths(), everyByte())
	for _, s := range l {
		text, e := host.Normal(s)
		if e != api.OK {
			continue
		}
		if !host.Is(text) || host.Is(s) != (s == text) {
			t.Fatalf("%.80q: %.80q", s, text)
		}
		if again, e := host.Normal(text); again != text || e != api.OK {
			t.Fatalf("%.80q: %.80q, %.80q %v", s, text, again, e)
		}
	}
}

// P15.6

func TestSameByNormal(t *testing.T) {
	l := only(slices.Concat(withPorts(shortTexts("aB.", 3)), samples(300)), isHost)
	for _, a := range l {
		for _, b := range l {
			one, e := host.Normal(a)
			two, f := host.Normal(b)
			if e != api.OK || f != api.OK {
				continue
			}
			if is, e := host.Same(a, b); is != (one == two) || e != api.OK {
				t.Fatalf("%q and %q: %v %v", a, b, is, e)
			}
		}
	}
}

// P15.7

func TestJoinOfSplit(t *testing.T) {
	l := only(slices.Concat(withPorts(shortTexts("aB.-0", 4)), samples(20000), ofLengths()), isHost)
	for _, s := range l {
		name, port, e := host.Split(s)
		want, wantErr := host.Normal(s)
		joined, f := host.Join(name, port)
		if joined != want || e != api.OK || f != wantErr {
			t.Fatalf("%.80q: %.80q %d %v, %.80q %v", s, name, port, e, joined, f)
		}
		if host.Is(s) && joined != s {
			t.Fatalf("%.80q: %.80q", s, joined)
		}
	}
}

// P15.8

func TestUnderIsAnOrder(t *testing.T) {
	l := only(shortTexts("aB.", 5), isHost)
	under := func(s, domain string) bool {
		is, e := host.Under(s, domain)
		if e != api.OK {
			t.Fatalf("%q under %q: %v", s, domain, e)
		}
		return is
	}
	count := func(s string) int {
		labels, _ := host.Labels(s)
		return len(labels)
	}
	for _, s := range l {
		if !under(s, s) {
			t.Fatalf("%q", s)
		}
		over := only(l, func(domain string) bool { return under(s, domain) })
		for _, domain := range over {
			if count(s) < count(domain) {
				t.Fatalf("%q under %q", s, domain)
			}
			for _, upper := range l {
				if under(domain, upper) && !under(s, upper) {
					t.Fatalf("%q, %q, %q", s, domain, upper)
				}
			}
		}
	}
}

// P15.9

func TestCompareIsAnOrder(t *testing.T) {
	l := only(slices.Concat(withPorts(shortTexts("ab.", 3)), shortTexts("a0-.", 4)), host.Is)
	slices.Sort(l)
	l = slices.Compact(l)
	order := make([][]int, len(l))
	for i, a := range l {
		for _, b := range l {
			n, e := host.Compare(a, b)
			if e != api.OK || (n == 0) != (a == b) {
				t.Fatalf("%q and %q: %d %v", a, b, n, e)
			}
			order[i] = append(order[i], n)
		}
	}
	for i := range l {
		for j := range l {
			if order[i][j] != -order[j][i] {
				t.Fatalf("%q and %q", l[i], l[j])
			}
			for k := range l {
				if order[i][j] <= 0 && order[j][k] <= 0 && order[i][k] > 0 {
					t.Fatalf("%q, %q, %q", l[i], l[j], l[k])
				}
			}
		}
	}
}

func TestCompareIsSame(t *testing.T) {
	l := only(slices.Concat(withPorts(shortTexts("aB.", 3)), samples(300)), isHost)
	for _, a := range l {
		for _, b := range l {
			n, e := host.Compare(a, b)
			is, f := host.Same(a, b)
			if (n == 0) != is || e != api.OK || f != api.OK {
				t.Fatalf("%q and %q: %d %v, %v %v", a, b, n, e, is, f)
			}
		}
	}
}

// R4

func TestResultsAreNew(t *testing.T) {
	s := strings.Clone("a.b.c:81")
	name := strings.Clone("a.b.c")
	if got, _, _ := host.Split(s); !isNew(got, s) {
		t.Error("Split")
	}
	if got, _, _ := host.Split(name); !isNew(got, name) {
		t.Error("Split of a name")
	}
	if got, _ := host.Normal(s); !isNew(got, s) {
		t.Error("Normal")
	}
	if got, _ := host.Normal(name); !isNew(got, name) {
		t.Error("Normal of a name")
	}
	if got, _ := host.Join(name, 80); !isNew(got, name) {
		t.Error("Join")
	}
	l, _ := host.Labels(name)
	m, _ := host.Labels(name)
	for _, label := range l {
		if !isNew(label, name) {
			t.Error("Labels")
		}
	}
	if unsafe.SliceData(l) == unsafe.SliceData(m) {
		t.Error("Labels twice")
	}
}
