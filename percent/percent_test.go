package percent_test

import (
	"fmt"
	"math"
	"math/rand"
	"strings"
	"testing"

	"waypost/api"
	"waypost/byteset"
	"waypost/percent"
)

// escapes are all escapes, in all cases of their digits, with the bytes for which they stand.
func escapes() map[string]byte {
	all := map[string]byte{}
	for b := range 256 {
		for _, high := range []string{"%x", "%X"} {
			for _, low := range []string{"%x", "%X"} {
				all["%"+fmt.Sprintf(high, b/16)+fmt.Sprintf(low, b%16)] = byte(b)
			}
		}
	}
	return all
}

// known are the escapes as a table; what is not in it is none.
var known = escapes()

// said is what s says, how many escapes it has, and the offset of the first wrong percent sign, or -1.
func said(s string) (string, int, int) {
	var out []byte
	n := 0
	for i := 0; i < len(s); i++ {
		if s[i] != '%' {
			out = append(out, s[i])
			continue
		}
		b, ok := known[s[i:min(i+3, len(s))]]
		if !ok {
			return "", 0, i
		}
		out = append(out, b)
		n++
		i += 2
	}
	return string(out), n, -1
}

// isEncoded returns whether s is an encoded string.
func isEncoded(s string) bool {
	_, _, wrong := said(s)
	return wrong < 0
}

// stays returns whether b is left as it is, by the definition of the words of a set.
func stays(set api.Set, b byte) bool {
	return b != '%' && set[b/64]&(1<<(b%64)) != 0
}

// encoded is the canonical encoding of s.
func encoded(s string, set api.Set) string {
	var out strings.Builder
	for _, b := range []byte(s) {
		if stays(set, b) {
			out.WriteByte(b)
		} else {
			fmt.Fprintf(&out, "%%%02X", b)
		}
	}
	return out.String()
}

// isCanonical returns whether s has nothing but bytes that stay, and the escapes, as they are written, of bytes that do not.
func isCanonical(s string, set api.Set) bool {
	for s != "" {
		if stays(set, s[0]) {
			s = s[1:]
			continue
		}
		b, ok := known[s[:min(3, len(s))]]
		if !ok || stays(set, b) || s[:3] != strings.ToUpper(s[:3]) {
			return false
		}
		s = s[3:]
	}
	return true
}

// cut is the longest beginning of s of at most n bytes that has only whole escapes, of an encoded string.
func cut(s string, n int) string {
	end := min(n, len(s))
	for !isEncoded(s[:end]) {
		end--
	}
	return s[:end]
}

// offset is the length of the beginning of s that says n bytes, or -1.
func offset(s string, n int) int {
	for end := range len(s) + 1 {
		if text, _, wrong := said(s[:end]); wrong < 0 && len(text) == n {
			return end
		}
	}
	return -1
}

// all are all bytes; letters are the bytes that stay in the chapter's examples.
var (
	all     = api.Set{math.MaxUint64, math.MaxUint64, math.MaxUint64, math.MaxUint64}
	letters = byteset.Of([]byte("abcdefghijklmnopqrstuvwxyz/%")...)
)

// sets are sets of bytes that stay: none, all, all but the percent sign, that alone, and others.
func sets() []api.Set {
	l := []api.Set{{}, all, byteset.Not(byteset.Of('%')), byteset.Of('%'), letters, byteset.Not(letters), byteset.Of('4', 'F', '/', 0, 255)}
	r := rand.New(rand.NewSource(1))
	for range 5 {
		l = append(l, api.Set{r.Uint64(), r.Uint64(), r.Uint64(), r.Uint64()})
	}
	return l
}

// shortTexts are all strings of at most five of a few bytes: percent signs, digits of both cases, and others.
func shortTexts() []string {
	l := []string{""}
	for from := 0; len(l[from]) < 5; from++ {
		for _, b := range "%25aFg/" {
			l = append(l, l[from]+string(b))
		}
	}
	return l
}

// texts are strings of all kinds: short ones, ones of random bytes, and ones of random pieces with many escapes.
func texts() []string {
	l := shortTexts()
	r := rand.New(rand.NewSource(2))
	for range 1500 {
		b := make([]byte, r.Intn(30))
		for i := range b {
			b[i] = byte(r.Intn(256))
		}
		l = append(l, string(b))
	}
	for range 3000 {
		l = append(l, pieces(r))
	}
	return l
}

// pieces puts bytes and escapes together; half of the strings may have a wrong percent sign or a short escape, too.
func pieces(r *rand.Rand) string {
	forms := []string{"%%%02x", "%%%02X", "%%%x", "%%"}
	if r.Intn(2) == 0 {
		forms = forms[:2]
	}
	s := ""
	for range r.Intn(12) {
		switch k := r.Intn(len(forms) + 2); {
		case k >= len(forms):
			s += string([]byte{byte(r.Intn(256))})
		case forms[k] == "%%":
			s += "%"
		default:
			s += fmt.Sprintf(forms[k], r.Intn(256))
		}
	}
	return s
}

// encodedTexts are those of the texts that are encoded strings.
func encodedTexts() []string {
	var l []string
	for _, s := range texts() {
		if isEncoded(s) {
			l = append(l, s)
		}
	}
	return l
}

// pairs goes through pairs of strings of a list, the same ones each time.
func pairs(l []string, do func(a, b string)) {
	r := rand.New(rand.NewSource(3))
	for range 4000 {
		do(l[r.Intn(len(l))], l[r.Intn(len(l))])
	}
}

// P2.1

func TestExamplesOfDecode(t *testing.T) {
	for s, want := range map[string]string{
		"":          "",
		"a%2fb":     "a/b",
		"%41%42":    "AB",
		"%00%fF%Ff": "\x00\xff\xff",
		"%2541":     "%41",
		"%25%34%31": "%41",
		"+ \x80":    "+ \x80",
		"%c3%A9é":   "éé",
	} {
		if x, f := percent.Decode(s); x != want || f != (api.Fault{}) {
			t.Errorf("%q: %q %v", s, x, f)
		}
	}
	if n, f := percent.Escapes("a%20%41"); n != 2 || f != (api.Fault{}) {
		t.Error(n, f)
	}
	if x, f := percent.Canonical("%61%2F+", letters); x != "a/%2B" || f != (api.Fault{}) {
		t.Error(x, f)
	}
}

func TestExamplesOfFaults(t *testing.T) {
	for s, at := range map[string]int{
		"%":         0,
		"%4":        0,
		"%4g":       0,
		"%g4":       0,
		"%%41":      0,
		"%41%":      3,
		"%41%4":     3,
		"a%2%20":    1,
		"ab%zz%":    2,
		"%+1":       0,
		"% 1":       0,
		"%x4":       0,
		"%\x104":    0,
		"%4\x11":    0,
		"%4\xc1":    0,
		"%20%2\x00": 3,
	} {
		checkFault(t, s, at)
	}
}

// checkFault checks that the functions that tell of faults tell of that at the offset, and of nothing else.
func checkFault(t *testing.T, s string, at int) {
	t.Helper()
	want := api.Fault{Err: api.ErrForm, At: at}
	if x, f := percent.Decode(s); x != "" || f != want {
		t.Errorf("decode %q: %q %v", s, x, f)
	}
	if x, f := percent.Canonical(s, letters); x != "" || f != want {
		t.Errorf("canonical %q: %q %v", s, x, f)
	}
	if n, f := percent.Escapes(s); n != 0 || f != want {
		t.Errorf("escapes %q: %d %v", s, n, f)
	}
}

func TestDecode(t *testing.T) {
	for _, s := range texts() {
		want, count, wrong := said(s)
		if wrong >= 0 {
			checkFault(t, s, wrong)
			continue
		}
		if x, f := percent.Decode(s); x != want || f != (api.Fault{}) {
			t.Fatalf("decode %q: %q %v", s, x, f)
		}
		if n, f := percent.Escapes(s); n != count || f != (api.Fault{}) {
			t.Fatalf("escapes %q: %d %v", s, n, f)
		}
	}
}

// Whatever two bytes stand behind a percent sign, just the hexadecimal digits are taken.
func TestEveryEscape(t *testing.T) {
	valid := 0
	for first := range 256 {
		for second := range 256 {
			s := "%" + string([]byte{byte(first), byte(second)})
			want, ok := known[s]
			x, f := percent.Decode(s)
			if !ok {
				checkFault(t, s, 0)
			} else if x != string([]byte{want}) || f != (api.Fault{}) {
				t.Fatalf("%q: %q %v", s, x, f)
			} else {
				valid++
			}
		}
	}
	if valid != 22*22 {
		t.Error(valid)
	}
}

func TestCanonical(t *testing.T) {
	for _, set := range sets() {
		for _, s := range encodedTexts() {
			text, _, _ := said(s)
			if x, f := percent.Canonical(s, set); x != encoded(text, set) || f != (api.Fault{}) {
				t.Fatalf("%q %v: %q %v", s, set, x, f)
			}
		}
	}
}

// P2.2

func TestExamplesOfEncode(t *testing.T) {
	for _, c := range []struct {
		s    string
		set  api.Set
		want string
	}{
		{"", letters, ""},
		{"a/b c%", letters, "a/b%20c%25"},
		{"A", letters, "%41"},
		{"\x00\xab\xff", letters, "%00%AB%FF"},
		{"%41", letters, "%25%34%31"},
		{"a%", all, "a%25"},
		{"\x00\xff", all, "\x00\xff"},
		{"a", api.Set{}, "%61"},
		{"é", letters, "%C3%A9"},
	} {
		if x := percent.Encode(c.s, c.set); x != c.want {
			t.Errorf("%q: %q", c.s, x)
		}
		if n := percent.Length(c.s, c.set); n != len(c.want) {
			t.Errorf("%q: %d", c.s, n)
		}
	}
}

func TestEncodeAndLength(t *testing.T) {
	for _, set := range sets() {
		for _, s := range texts() {
			want := encoded(s, set)
			if x := percent.Encode(s, set); x != want {
				t.Fatalf("encode %q %v: %q", s, set, x)
			}
			if n := percent.Length(s, set); n != len(want) {
				t.Fatalf("length %q %v: %d", s, set, n)
			}
		}
	}
}

func TestExamplesOfIs(t *testing.T) {
	for s, want := range map[string]bool{
		"":       true,
		"a/":     true,
		"a/%20":  true,
		"a%2Fb":  false,
		"a%2f":   false,
		"%e4":    false,
		"%E4":    true,
		"%25":    true,
		"%":      false,
		"a%4":    false,
		"A":      false,
		"%41%zz": false,
	} {
		if percent.Is(s, letters) != want {
			t.Errorf("%q: %v", s, !want)
		}
	}
	if percent.Is("%", all) || !percent.Is("%25", all) || !percent.Is("%25", api.Set{}) || percent.Is("a", api.Set{}) {
		t.Error("all bytes, or none")
	}
}

func TestIs(t *testing.T) {
	for _, set := range sets() {
		for _, s := range texts() {
			if percent.Is(s, set) != isCanonical(s, set) {
				t.Fatalf("%q %v: %v", s, set, percent.Is(s, set))
			}
		}
	}
}

// P2.3

func TestExamplesOfCut(t *testing.T) {
	for _, c := range []struct {
		s    string
		n    int
		want string
		e    api.Errno
	}{
		{"a%20b", 0, "", api.OK},
		{"a%20b", 1, "a", api.OK},
		{"a%20b", 2, "a", api.OK},
		{"a%20b", 3, "a", api.OK},
		{"a%20b", 4, "a%20", api.OK},
		{"a%20b", 5, "a%20b", api.OK},
		{"a%20b", math.MaxInt, "a%20b", api.OK},
		{"%41%42", 5, "%41", api.OK},
		{"%41", 2, "", api.OK},
		{"", 0, "", api.OK},
		{"", math.MaxInt, "", api.OK},
		{"a%20b", -1, "", api.ErrRange},
		{"a%20b", math.MinInt, "", api.ErrRange},
		{"a%", -1, "", api.ErrRange},
		{"a%", 9, "", api.ErrForm},
		{"a%", 1, "", api.ErrForm},
		{"a%", 0, "", api.ErrForm},
	} {
		if x, e := percent.Cut(c.s, c.n); x != c.want || e != c.e {
			t.Errorf("%q %d: %q %v", c.s, c.n, x, e)
		}
	}
}

func TestExamplesOfOffset(t *testing.T) {
	for _, c := range []struct {
		s       string
		n, want int
		e       api.Errno
	}{
		{"a%20b", 0, 0, api.OK},
		{"a%20b", 1, 1, api.OK},
		{"a%20b", 2, 4, api.OK},
		{"a%20b", 3, 5, api.OK},
		{"a%20b", 4, 0, api.ErrRange},
		{"a%20b", 5, 0, api.ErrRange},
		{"a%20b", math.MaxInt, 0, api.ErrRange},
		{"a%20b", math.MinInt, 0, api.ErrRange},
		{"%25%", -1, 0, api.ErrRange},
		{"%25%", 9, 0, api.ErrForm},
		{"%25%", 0, 0, api.ErrForm},
		{"%2541", 1, 3, api.OK},
		{"%2541", 3, 5, api.OK},
		{"", 0, 0, api.OK},
		{"", 1, 0, api.ErrRange},
		{"", -1, 0, api.ErrRange},
	} {
		if x, e := percent.Offset(c.s, c.n); x != c.want || e != c.e {
			t.Errorf("%q %d: %d %v", c.s, c.n, x, e)
		}
	}
}

func TestCutAndOffset(t *testing.T) {
	for _, s := range encodedTexts() {
		text, _, _ := said(s)
		for n := range len(s) + 3 {
			if x, e := percent.Cut(s, n); x != cut(s, n) || e != api.OK {
				t.Fatalf("cut %q %d: %q %v", s, n, x, e)
			}
			x, e := percent.Offset(s, n)
			if n > len(text) && (x != 0 || e != api.ErrRange) || n <= len(text) && (x != offset(s, n) || e != api.OK) {
				t.Fatalf("offset %q %d: %d %v", s, n, x, e)
			}
		}
	}
}

// However few bytes are asked for, the whole string has to be an encoded one; a number below 0 is told of first.
func TestCutAndOffsetOfOthers(t *testing.T) {
	for _, s := range texts() {
		want := api.ErrForm
		if isEncoded(s) {
			want = api.OK
		}
		for n, e := range map[int]api.Errno{-1: api.ErrRange, math.MinInt: api.ErrRange, 0: want} {
			x, cutErr := percent.Cut(s, n)
			at, offsetErr := percent.Offset(s, n)
			if x != "" || cutErr != e || at != 0 || offsetErr != e {
				t.Fatalf("%q %d: %q %v %d %v", s, n, x, cutErr, at, offsetErr)
			}
		}
		if _, e := percent.Cut(s, math.MaxInt); e != want {
			t.Fatalf("%q: %v", s, e)
		}
		if _, e := percent.Offset(s, math.MaxInt); want == api.ErrForm && e != want {
			t.Fatalf("%q: %v", s, e)
		}
	}
}

// P2.4

func TestDecodeOfEncode(t *testing.T) {
	for _, set := range sets() {
		for _, s := range texts() {
			if x, f := percent.Decode(percent.Encode(s, set)); x != s || f != (api.Fault{}) {
				t.Fatalf("%q %v: %q %v", s, set, x, f)
			}
		}
	}
}

// P2.5

func TestEncodeOfDecode(t *testing.T) {
	for _, set := range sets() {
		for _, s := range encodedTexts() {
			x, _ := percent.Decode(s)
			if (percent.Encode(x, set) == s) != percent.Is(s, set) {
				t.Fatalf("%q %v: %q %v", s, set, x, percent.Is(s, set))
			}
		}
	}
}

func TestCanonicalOfCanonical(t *testing.T) {
	for _, set := range sets() {
		for _, s := range texts() {
			c := percent.Encode(s, set)
			if x, f := percent.Canonical(c, set); x != c || f != (api.Fault{}) || !percent.Is(c, set) {
				t.Fatalf("%q %v: %q %v", c, set, x, f)
			}
		}
	}
}

// P2.6

func TestOneBehindTheOther(t *testing.T) {
	pairs(texts(), func(a, b string) {
		for _, set := range sets() {
			if x := percent.Encode(a+b, set); x != percent.Encode(a, set)+percent.Encode(b, set) {
				t.Fatalf("encode %q %q %v: %q", a, b, set, x)
			}
		}
	})
	pairs(encodedTexts(), func(a, b string) {
		first, _ := percent.Decode(a)
		second, _ := percent.Decode(b)
		if x, f := percent.Decode(a + b); x != first+second || f != (api.Fault{}) {
			t.Fatalf("decode %q %q: %q %v", a, b, x, f)
		}
	})
}

// P2.7

func TestCutIsEncoded(t *testing.T) {
	for _, s := range encodedTexts() {
		whole, _ := percent.Decode(s)
		for n := range len(s) + 2 {
			c, _ := percent.Cut(s, n)
			x, f := percent.Decode(c)
			if f != (api.Fault{}) || !strings.HasPrefix(whole, x) {
				t.Fatalf("%q %d: %q %q %v", s, n, c, x, f)
			}
		}
	}
}

// P2.8

func TestLength(t *testing.T) {
	for _, set := range sets() {
		for _, s := range texts() {
			if n := percent.Length(s, set); n < len(s) || n > 3*len(s) {
				t.Fatalf("%q %v: %d", s, set, n)
			}
		}
	}
	for _, s := range texts() {
		grown := len(s) + 2*strings.Count(s, "%")
		if n := percent.Length(s, all); n != grown {
			t.Fatalf("all stay, %q: %d", s, n)
		}
		if n := percent.Length(s, byteset.Not(byteset.Of('%'))); n != grown {
			t.Fatalf("all but the percent sign stay, %q: %d", s, n)
		}
		if n := percent.Length(s, api.Set{}); n != 3*len(s) {
			t.Fatalf("none stays, %q: %d", s, n)
		}
	}
}

// Long strings: nothing depends on their length.
func TestLongTexts(t *testing.T) {
	s := strings.Repeat("a%2F/ ", 20000)
	x, f := percent.Decode(s)
	if x != strings.Repeat("a// ", 20000) || f != (api.Fault{}) {
		t.Error(len(x), f)
	}
	if c, f := percent.Canonical(s, letters); c != strings.Repeat("a//%20", 20000) || f != (api.Fault{}) {
		t.Error(len(c), f)
	}
	if at, e := percent.Offset(s, len(x)); at != len(s) || e != api.OK {
		t.Error(at, e)
	}
	checkFault(t, s+"%2", len(s))
}
