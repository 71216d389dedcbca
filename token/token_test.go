package token_test

import (
	"fmt"
	"math/rand"
	"regexp"
	"slices"
	"strings"
	"testing"
	"unsafe"

	"waypost/api"
	"waypost/token"
)

const (
	small   = "abcdefghijklmnopqrstuvwxyz"
	capital = "ABCDEFGHIJKLMNOPQRSTUVWXYZ"
	// inTokens are all bytes that tokens have.
	inTokens = "!#$%&'*+-.^_`|~0123456789" + small + capital
)

// The forms of the chapter's Terms. They are for strings with a rune for each byte, as wide makes them.
var (
	tokenForm = regexp.MustCompile(tokenText + `\z`)
	frontForm = regexp.MustCompile(tokenText)
	valueForm = regexp.MustCompile(`\A` + valueText + `\z`)
	listForm  = regexp.MustCompile(`\A` + elementText + `(,` + elementText + `)*\z`)
	colonForm = regexp.MustCompile(`(?s)` + tokenText + `:[ \t]*(` + valueText + `)[ \t]*\z`)
	innerForm = regexp.MustCompile(`(?s)\A[ \t]*(|[^ \t]|[^ \t].*[^ \t])[ \t]*\z`)
)

const (
	tokenText   = "\\A([!#$%&'*+\\-.^_`|~0-9a-zA-Z]+)"
	valueText   = `(?:[!-~\x80-\xff](?:[ \t!-~\x80-\xff]*[!-~\x80-\xff])?)?`
	elementText = "[ \t]*[!#$%&'*+\\-.^_`|~0-9a-zA-Z]*[ \t]*"
)

// wide has a rune for each byte of s.
func wide(s string) string {
	var l []rune
	for _, b := range []byte(s) {
		l = append(l, rune(b))
	}
	return string(l)
}

// narrow has a byte for each rune of a wide string.
func narrow(s string) string {
	var l []byte
	for _, r := range s {
		l = append(l, byte(r))
	}
	return string(l)
}

// part is what a form finds in s in its first pair of parentheses, and whether it fits.
func part(form *regexp.Regexp, s string) (string, bool) {
	m := form.FindStringSubmatch(wide(s))
	if m == nil {
		return "", false
	}
	return narrow(m[1]), true
}

// isToken, isValue, inner and lower are what Is, Value, Trim and Lower should return.
func isToken(s string) bool { return tokenForm.MatchString(wide(s)) }

func isValue(s string) bool { return valueForm.MatchString(wide(s)) }

func inner(s string) string {
	text, ok := part(innerForm, s)
	if !ok {
		panic(s)
	}
	return text
}

func lower(s string) string {
	l := []byte(s)
	for i := range l {
		if at := strings.IndexByte(capital, l[i]); at >= 0 {
			l[i] = small[at]
		}
	}
	return string(l)
}

// listOf is what List should return.
func listOf(s string) ([]string, api.Errno) {
	if len(s) > 1024 {
		return nil, api.ErrLong
	}
	if !isValue(s) || !listForm.MatchString(s) {
		return nil, api.ErrForm
	}
	return strings.FieldsFunc(lower(s), func(r rune) bool { return strings.ContainsRune(" \t,", r) }), api.OK
}

// holds is what Holds should return.
func holds(s, name string) (bool, api.Errno) {
	l, e := listOf(s)
	if e != api.OK {
		return false, e
	}
	if !isToken(name) {
		return false, api.ErrForm
	}
	return slices.Contains(l, lower(name)), api.OK
}

// cut is what Cut should return.
func cut(s string) (string, string, api.Errno) {
	name, ok := part(frontForm, s)
	if !ok {
		return "", "", api.ErrMissing
	}
	return name, s[len(name):], api.OK
}

// colon is what Colon should return.
func colon(s string) (string, string, api.Errno) {
	m := colonForm.FindStringSubmatch(wide(s))
	if m == nil {
		return "", "", api.ErrForm
	}
	return m[1], narrow(m[2]), api.OK
}

// check checks all that is said of one string against the models.
func check(t *testing.T, s string) {
	t.Helper()
	if token.Is(s) != isToken(s) || token.Value(s) != isValue(s) {
		t.Fatalf("%.80q: token %v, value %v", s, token.Is(s), token.Value(s))
	}
	if got := token.Trim(s); got != inner(s) {
		t.Fatalf("%.80q trimmed: %.80q", s, got)
	}
	if got := token.Lower(s); got != lower(s) {
		t.Fatalf("%.80q in lower case: %.80q", s, got)
	}
	want, wantErr := listOf(s)
	if l, e := token.List(s); !slices.Equal(l, want) || e != wantErr {
		t.Fatalf("%.80q: list %.10q %v, not %.10q %v", s, l, e, want, wantErr)
	}
	name, rest, wantErr := cut(s)
	if a, b, e := token.Cut(s); a != name || b != rest || e != wantErr {
		t.Fatalf("%.80q: cut %.40q %.40q %v", s, a, b, e)
	}
	name, value, wantErr := colon(s)
	if a, b, e := token.Colon(s); a != name || b != value || e != wantErr {
		t.Fatalf("%.80q: colon %.40q %.40q %v", s, a, b, e)
	}
}

// checkHolds checks Holds against the model.
func checkHolds(t *testing.T, s, name string) {
	t.Helper()
	want, wantErr := holds(s, name)
	if is, e := token.Holds(s, name); is != want || e != wantErr {
		t.Fatalf("%.80q holds %.40q: %v %v, not %v %v", s, name, is, e, want, wantErr)
	}
}

// shortTexts are all strings of at most most bytes of an alphabet.
func shortTexts(alphabet string, most int) []string {
	l := []string{""}
	for from := 0; from < len(l) && len(l[from]) < most; from++ {
		for i := range len(alphabet) {
			l = append(l, l[from]+alphabet[i:i+1])
		}
	}
	return l
}

// names are random tokens.
func names(n int, r *rand.Rand) []string {
	var l []string
	for range n {
		b := make([]byte, 1+r.Intn(6))
		for i := range b {
			b[i] = inTokens[r.Intn(len(inTokens))]
		}
		l = append(l, string(b))
	}
	return l
}

// mixed is s with letters of random case.
func mixed(s string, r *rand.Rand) string {
	b := []byte(s)
	for i := range b {
		if at := strings.IndexByte(small+capital, b[i]); at >= 0 {
			b[i] = (small + capital)[at%26+26*r.Intn(2)]
		}
	}
	return string(b)
}

// samples are lines, lists, values and others, put together from pieces.
func samples() []string {
	r := rand.New(rand.NewSource(1))
	pieces := []string{"a", "Close", "keep-alive", "X", "9", ",", ",", ", ", " ,\t", ":", ": ", " ", "\t", ";", "\"", "(", "\x00", "\n", "\r\n", "\x7f", "\x80", "\xff", "é", "\u212a"}
	var l []string
	for range 20000 {
		var b strings.Builder
		most := 5 + r.Intn(len(pieces)-4)
		for range r.Intn(10) {
			b.WriteString(pieces[r.Intn(most)])
		}
		l = append(l, b.String())
	}
	for range 5000 {
		b := make([]byte, r.Intn(12))
		r.Read(b)
		l = append(l, string(b))
	}
	return l
}

// lists are lists of tokens, with all that may stand between these.
func lists() []string {
	r := rand.New(rand.NewSource(2))
	var l []string
	for range 5000 {
		text := ""
		for i, name := range names(r.Intn(8), r) {
			if i > 0 {
				text += []string{",", ", ", " ,", "\t,\t", ",,", " , , "}[r.Intn(6)]
			}
			text += name
		}
		text = []string{"", ",", ", ", ",\t,"}[r.Intn(4)] + text + []string{"", ",", " ,", ",\t,"}[r.Intn(4)]
		l = append(l, strings.Trim(text, " \t"))
	}
	return l
}

// isNew returns whether a result has memory of its own.
func isNew(result, argument string) bool {
	from := uintptr(unsafe.Pointer(unsafe.StringData(argument)))
	at := uintptr(unsafe.Pointer(unsafe.StringData(result)))
	return result == "" || at < from || at >= from+uintptr(len(argument))
}

// P5.1 to P5.3

func TestEveryByte(t *testing.T) {
	for b := range 256 {
		one := string([]byte{byte(b)})
		for _, form := range []string{"%s", "a%s", "%sa", "A%sb", "a,%s", "%s,a", "a,%s,b", "a, %s ,b", "a:%s", "a: %s ", "a%s:b", "%sa:b", "a:b%s", "a:%sb", "a:b%sb", " %s", "%s\t"} {
			check(t, fmt.Sprintf(form, one))
		}
	}
}

func TestShortTexts(t *testing.T) {
	for _, s := range shortTexts("aZ,: \t(\x7f\xe9\n", 5) {
		check(t, s)
	}
	for _, s := range shortTexts("a, :", 8) {
		check(t, s)
	}
}

func TestSamples(t *testing.T) {
	for _, s := range append(samples(), lists()...) {
		check(t, s)
	}
}

func TestLongStrings(t *testing.T) {
	for _, s := range []string{"a", "A", " ", ",", "a,", ":", "\x80", "\n"} {
		long := strings.Repeat(s, 100000/len(s))
		check(t, long)
		check(t, "a:"+long)
		check(t, long+"\x00")
	}
}

// P5.1

func TestIsAndValue(t *testing.T) {
	for s, want := range map[string][2]bool{
		"GET":             {true, true},
		"a b":             {false, true},
		"":                {false, true},
		" a":              {false, false},
		"a ":              {false, false},
		"\ta":             {false, false},
		"a\t":             {false, false},
		" ":               {false, false},
		"\t":              {false, false},
		"a\x7f":           {false, false},
		"a\x80":           {false, true},
		"\xff":            {false, true},
		"a \t b":          {false, true},
		"a\rb":            {false, false},
		"a\nb":            {false, false},
		"a\x00":           {false, false},
		"a\vb":            {false, false},
		"a,b":             {false, true},
		"a:":              {false, true},
		"\"a\"":           {false, true},
		"(a)":             {false, true},
		"é":               {false, true},
		"\u2003":          {false, true},
		inTokens:          {true, true},
		"-":               {true, true},
		"7":               {true, true},
		inTokens + "@":    {false, true},
		"\u212a":          {false, true},
		"a\u0130":         {false, true},
		"\xc2\xa0a":       {false, true},
		"\x1f":            {false, false},
		"!\x80\xff~ \t!~": {false, true},
	} {
		if token.Is(s) != want[0] || token.Value(s) != want[1] {
			t.Errorf("%q: token %v, value %v", s, token.Is(s), token.Value(s))
		}
	}
}

func TestTrim(t *testing.T) {
	for s, want := range map[string]string{
		" a ":             "a",
		"a":               "a",
		"":                "",
		" ":               "",
		"\t \t":           "",
		" \ta b\t ":       "a b",
		"\na\n":           "\na\n",
		" \r a \v ":       "\r a \v",
		" \xff ":          "\xff",
		"\xc2\xa0 a":      "\xc2\xa0 a",
		"\u2003a\u2003":   "\u2003a\u2003",
		"a \t":            "a",
		"\t a":            "a",
		" \x85 \xa0 ":     "\x85 \xa0",
		"\x00 ":           "\x00",
		"  two  blanks  ": "two  blanks",
	} {
		if got := token.Trim(s); got != want {
			t.Errorf("%q: %q", s, got)
		}
	}
}

func TestLower(t *testing.T) {
	for s, want := range map[string]string{
		"":             "",
		"AbZ":          "abz",
		capital:        small,
		small:          small,
		"@[`{":         "@[`{",
		"\xc4\xd6\xff": "\xc4\xd6\xff",
		"É":            "É",
		"\u212a":       "\u212a",
		"A\xffB":       "a\xffb",
		"\x01\x1a!Z":   "\x01\x1a!z",
		"K\u0130I":     "k\u0130i",
	} {
		if got := token.Lower(s); got != want {
			t.Errorf("%q: %q", s, got)
		}
	}
}

func TestSame(t *testing.T) {
	for i, c := range []struct {
		a, b string
		want bool
	}{
		{"aB", "Ab", true},
		{"a", "aa", false},
		{"aa", "a", false},
		{"", "", true},
		{"", "a", false},
		{"a b,", "A B,", true},
		{" a", "a", false},
		{"a", "b", false},
		{"[", "{", false},
		{"@", "`", false},
		{"^", "~", false},
		{"1", "\x11", false},
		{"\xc4", "\xe4", false},
		{"É", "é", false},
		{"k", "\u212a", false},
		{"s", "\u017f", false},
		{"\xff", "\xfe", false},
		{"\xff", "\ufffd", false},
		{"\xff", "\xff", true},
		{small, capital, true},
		{strings.Repeat("a", 1000000), strings.Repeat("A", 1000000), true},
		{strings.Repeat("a", 1000000), strings.Repeat("A", 999999) + "b", false},
	} {
		if token.Same(c.a, c.b) != c.want {
			t.Error(i, c.a[:min(len(c.a), 20)])
		}
	}
}

// Two bytes are the same only if they are equal, or the same letter.
func TestSameOfAllBytes(t *testing.T) {
	for a := range 256 {
		for b := range 256 {
			s, u := string([]byte{byte(a)}), string([]byte{byte(b)})
			if token.Same(s, u) != (lower(s) == lower(u)) || token.Same("a"+s, "A"+u) != (lower(s) == lower(u)) {
				t.Fatal(a, b)
			}
		}
	}
}

func TestTextsAreNew(t *testing.T) {
	for _, s := range []string{"abc", " abc ", "a"} {
		if !isNew(token.Trim(s), s) || !isNew(token.Lower(s), s) {
			t.Errorf("%q", s)
		}
	}
}

// P5.2

func TestList(t *testing.T) {
	for s, want := range map[string][]string{
		"close, Keep-Alive":  {"close", "keep-alive"},
		", a,":               {"a"},
		"":                   nil,
		",":                  nil,
		", \t,,":             nil,
		"A,a":                {"a", "a"},
		"b,a":                {"b", "a"},
		"a\t,\tb":            {"a", "b"},
		"a,,b":               {"a", "b"},
		"a ,":                {"a"},
		", a":                {"a"},
		"!#$%&'*+-.^_`|~,0Z": {"!#$%&'*+-.^_`|~", "0z"},
		"a  \t ,  b":         {"a", "b"},
	} {
		if l, e := token.List(s); !slices.Equal(l, want) || e != api.OK {
			t.Errorf("%q: %q %v", s, l, e)
		}
	}
}

func TestWrongLists(t *testing.T) {
	for _, s := range []string{"a b", "a;b", " a", "a ", "\ta", "a\t", " ", "\t", " ,", ", ", "a, \"b\"", "a,b c", "a b,c", "a,(", "a:", "a=b", "\xe9", "a,\xff", "a\n", "a,\r\nb", "a\x00", "a,\x7f", "a,b\tc,d", "\u00a0", "a,\u00a0b"} {
		if l, e := token.List(s); l != nil || e != api.ErrForm {
			t.Errorf("%q: %q %v", s, l, e)
		}
	}
}

// The length comes first, whatever else is wrong.
func TestLongLists(t *testing.T) {
	for s, want := range map[string]api.Errno{
		strings.Repeat("a", 1024):              api.OK,
		strings.Repeat("a", 1025):              api.ErrLong,
		strings.Repeat("a,", 512):              api.OK,
		strings.Repeat("a,", 512) + ",":        api.ErrLong,
		strings.Repeat(",", 1024):              api.OK,
		strings.Repeat(",", 1025):              api.ErrLong,
		strings.Repeat(" ", 1024):              api.ErrForm,
		strings.Repeat(" ", 1025):              api.ErrLong,
		"a" + strings.Repeat(" ", 1022) + "b":  api.ErrForm,
		"a" + strings.Repeat(" ", 1023) + "b":  api.ErrLong,
		"a," + strings.Repeat(" ", 1021) + "b": api.OK,
		strings.Repeat("\"", 1000000):          api.ErrLong,
		strings.Repeat("é", 512):               api.ErrForm,
		strings.Repeat("é", 513):               api.ErrLong,
	} {
		l, e := token.List(s)
		if e != want || e != api.OK && l != nil {
			t.Errorf("%.10q, %d bytes: %v", s, len(s), e)
		}
		if is, e := token.Holds(s, "b"); e != want || e != api.OK && is {
			t.Errorf("%.10q, %d bytes, holds: %v %v", s, len(s), is, e)
		}
		check(t, s)
	}
	if l, _ := token.List(strings.Repeat("a,", 512)); len(l) != 512 {
		t.Error(len(l))
	}
}

func TestListIsNew(t *testing.T) {
	s := "abc,def"
	l, _ := token.List(s)
	if !isNew(l[0], s) || !isNew(l[1], s) {
		t.Error("a part of the text")
	}
	l[0] = "z"
	if again, _ := token.List(s); !slices.Equal(again, []string{"abc", "def"}) {
		t.Error(again)
	}
}

func TestHolds(t *testing.T) {
	for i, c := range []struct {
		s, name string
		want    bool
		e       api.Errno
	}{
		{"a, Close", "CLOSE", true, api.OK},
		{"a, Close", "close", true, api.OK},
		{"a", "b", false, api.OK},
		{"a", "a b", false, api.ErrForm},
		{"", "a", false, api.OK},
		{",", "a", false, api.OK},
		{"closed", "close", false, api.OK},
		{"close", "closed", false, api.OK},
		{"a,b,c", "b", true, api.OK},
		{"a,b,c", "C", true, api.OK},
		{"a-b", "b", false, api.OK},
		{"a", "", false, api.ErrForm},
		{"", "", false, api.ErrForm},
		{"a,,b", "", false, api.ErrForm},
		{"a", " a", false, api.ErrForm},
		{"a", "a,", false, api.ErrForm},
		{"a,b", "a,b", false, api.ErrForm},
		{"a", "\xe1", false, api.ErrForm},
		{"k", "\u212a", false, api.ErrForm},
		{"^", "~", false, api.OK},
		{"a b", "a", false, api.ErrForm},
		{"a b", "a b", false, api.ErrForm},
		{"a, b c", "a", false, api.ErrForm},
		{strings.Repeat("a", 1025), "", false, api.ErrLong},
		{strings.Repeat("a", 1025), "a", false, api.ErrLong},
		{strings.Repeat("a", 1024), strings.Repeat("A", 1024), true, api.OK},
		{"a", strings.Repeat("A", 1000000), false, api.OK},
		{"a", strings.Repeat(" ", 1000000), false, api.ErrForm},
	} {
		if is, e := token.Holds(c.s, c.name); is != c.want || e != c.e {
			t.Error(i, is, e)
		}
	}
}

func TestHoldsOfAll(t *testing.T) {
	l := shortTexts("aB, (", 4)
	for _, s := range l {
		for _, name := range []string{"a", "A", "b", "B", "ab", "aB", "ba", "aa", "", " ", ",", "a,b", "(", "a "} {
			checkHolds(t, s, name)
		}
	}
	for b := range 256 {
		one := string([]byte{byte(b)})
		for _, form := range []string{"%s", "a%s", "%sa"} {
			name := fmt.Sprintf(form, one)
			checkHolds(t, "a", name)
			checkHolds(t, name, "a")
			checkHolds(t, "b,"+name, name)
		}
	}
	r := rand.New(rand.NewSource(3))
	all := samples()
	for range 20000 {
		checkHolds(t, all[r.Intn(len(all))], all[r.Intn(len(all))])
	}
}

func TestJoin(t *testing.T) {
	for i, c := range []struct {
		l    []string
		want string
		e    api.Errno
	}{
		{nil, "", api.OK},
		{[]string{"a"}, "a", api.OK},
		{[]string{"a", "b"}, "a, b", api.OK},
		{[]string{"b", "A", "b"}, "b, A, b", api.OK},
		{[]string{"Keep-Alive", "close", "x"}, "Keep-Alive, close, x", api.OK},
		{[]string{inTokens}, inTokens, api.OK},
		{[]string{""}, "", api.ErrForm},
		{[]string{" "}, "", api.ErrForm},
		{[]string{"a", " "}, "", api.ErrForm},
		{[]string{"a", ""}, "", api.ErrForm},
		{[]string{"", "a"}, "", api.ErrForm},
		{[]string{"a", "b c", "d"}, "", api.ErrForm},
		{[]string{"a,b"}, "", api.ErrForm},
		{[]string{"a", "b,"}, "", api.ErrForm},
		{[]string{" a"}, "", api.ErrForm},
		{[]string{"a\n"}, "", api.ErrForm},
		{[]string{"a", "\xe9"}, "", api.ErrForm},
		{[]string{strings.Repeat("a", 2000), "b"}, strings.Repeat("a", 2000) + ", b", api.OK},
	} {
		if s, e := token.Join(c.l...); s != c.want || e != c.e {
			t.Errorf("%d: %.40q %v", i, s, e)
		}
	}
	if s, e := token.Join(); s != "" || e != api.OK {
		t.Errorf("none: %q %v", s, e)
	}
}

func TestJoinOfAll(t *testing.T) {
	r := rand.New(rand.NewSource(4))
	all := append(names(2000, r), samples()[:200]...)
	for range 20000 {
		var l []string
		good := true
		for range r.Intn(5) {
			l = append(l, all[r.Intn(len(all))])
			good = good && isToken(l[len(l)-1])
		}
		given := slices.Clone(l)
		s, e := token.Join(l...)
		if good && (s != strings.Join(l, ", ") || e != api.OK) || !good && (s != "" || e != api.ErrForm) || !slices.Equal(l, given) {
			t.Fatalf("%q: %q %v", l, s, e)
		}
	}
}

func TestJoinIsNew(t *testing.T) {
	if s, _ := token.Join("abc"); !isNew(s, "abc") {
		t.Error("the argument")
	}
	only := strings.Repeat("a", 10)
	if s, _ := token.Join(only); s != only || !isNew(s, only) {
		t.Error("the argument")
	}
}

// P5.3

func TestCut(t *testing.T) {
	for s, want := range map[string][2]string{
		"GET /x":       {"GET", " /x"},
		"abc":          {"abc", ""},
		"a:b":          {"a", ":b"},
		"a b c":        {"a", " b c"},
		"a\xff":        {"a", "\xff"},
		"aé":           {"a", "é"},
		"a\x00b":       {"a", "\x00b"},
		"A,b":          {"A", ",b"},
		"a\r\n":        {"a", "\r\n"},
		inTokens + "/": {inTokens, "/"},
		"-(-":          {"-", "(-"},
	} {
		if a, b, e := token.Cut(s); a != want[0] || b != want[1] || e != api.OK {
			t.Errorf("%q: %q %q %v", s, a, b, e)
		}
	}
	for _, s := range []string{"", " x", "\tx", ":a", ",a", "/x", "\xffa", "éa", "\x00", "(", "\na"} {
		if a, b, e := token.Cut(s); a != "" || b != "" || e != api.ErrMissing {
			t.Errorf("%q: %q %q %v", s, a, b, e)
		}
	}
}

func TestColon(t *testing.T) {
	for s, want := range map[string][2]string{
		"Host: a.b ":      {"Host", "a.b"},
		"a:":              {"a", ""},
		"a: ":             {"a", ""},
		"a:\t \t":         {"a", ""},
		"a:b:c":           {"a", "b:c"},
		"a::":             {"a", ":"},
		"X:\t 1\t2 ":      {"X", "1\t2"},
		"a:b":             {"a", "b"},
		"a: b c  d":       {"a", "b c  d"},
		"a:\x80\xff":      {"a", "\x80\xff"},
		"a: \"x, y\" (z)": {"a", "\"x, y\" (z)"},
		"Keep-Alive:5":    {"Keep-Alive", "5"},
		inTokens + ":!~":  {inTokens, "!~"},
		"a:" + inTokens:   {"a", inTokens},
	} {
		if a, b, e := token.Colon(s); a != want[0] || b != want[1] || e != api.OK {
			t.Errorf("%q: %q %q %v", s, a, b, e)
		}
	}
	for _, s := range []string{"Host : a", "Host\t: a", ":a", ":", "", "no", "a b", " a: b", "\ta: b", "a b: c", "a,b: c", "a(:b", "\xe9:a", "a\xe9:b", "a: b\x01", "a: b\x7f", "a: b\x00c", "a: \x7f", "a:b\r", "a:b\r\n", "a:\n", "a\n:b", "a:b\nc:d", "a:\vb", "a;b:c"} {
		if a, b, e := token.Colon(s); a != "" || b != "" || e != api.ErrForm {
			t.Errorf("%q: %q %q %v", s, a, b, e)
		}
	}
}

func TestPartsAreNew(t *testing.T) {
	s := strings.Repeat("a", 20) + ": " + strings.Repeat("b", 20)
	name, rest, _ := token.Cut(s)
	again, value, _ := token.Colon(s)
	for _, part := range []string{name, rest, again, value} {
		if part == "" || !isNew(part, s) {
			t.Errorf("%q", part)
		}
	}
	if name, _, _ := token.Cut("abc"); !isNew(name, "abc") {
		t.Error("all of it")
	}
}

// P5.4

func TestListOfJoin(t *testing.T) {
	r := rand.New(rand.NewSource(5))
	for range 5000 {
		l := names(r.Intn(8), r)
		s, _ := token.Join(l...)
		got, e := token.List(s)
		for i := range l {
			l[i] = lower(l[i])
		}
		if e != api.OK || !slices.Equal(got, l) || !token.Value(s) {
			t.Fatalf("%q: %q %v", s, got, e)
		}
	}
}

// P5.5

func TestHoldsItsTokens(t *testing.T) {
	r := rand.New(rand.NewSource(6))
	for _, s := range lists() {
		l, e := token.List(s)
		if e != api.OK {
			t.Fatalf("%q: %v", s, e)
		}
		for _, name := range l {
			if is, e := token.Holds(s, mixed(name, r)); !is || e != api.OK {
				t.Fatalf("%q: %q %v", s, name, e)
			}
		}
		if is, e := token.Holds(s, "longer-than-all"); is || e != api.OK {
			t.Fatalf("%q: %v %v", s, is, e)
		}
	}
}

func TestEmptyElements(t *testing.T) {
	for _, s := range lists() {
		l, e := token.List(s)
		for _, more := range []string{"," + s, s + ",", ", \t, " + s + " , ,", strings.ReplaceAll(s, ",", ",,"), strings.ReplaceAll(s, ",", " , \t, ")} {
			more = strings.Trim(more, " ")
			if got, f := token.List(more); !slices.Equal(got, l) || f != e {
				t.Fatalf("%q: %q %v", more, got, f)
			}
		}
	}
}

// P5.6

func TestTrimTwice(t *testing.T) {
	r := rand.New(rand.NewSource(7))
	inValues := " \t"
	for b := 33; b < 256; b++ {
		if b != 127 {
			inValues += string([]byte{byte(b)})
		}
	}
	for _, s := range append(samples(), shortTexts("a \t\n\xff", 6)...) {
		once := token.Trim(s)
		if token.Trim(once) != once {
			t.Fatalf("%q: %q", s, once)
		}
	}
	for range 20000 {
		b := make([]byte, r.Intn(8))
		for i := range b {
			b[i] = inValues[r.Intn(len(inValues))%(2+r.Intn(len(inValues)-2))]
		}
		if s := token.Trim(string(b)); !token.Value(s) {
			t.Fatalf("%q: %q", b, s)
		}
	}
}

// P5.7

func TestCutInTwo(t *testing.T) {
	for _, s := range append(samples(), shortTexts("aZ-: \xff", 6)...) {
		name, rest, e := token.Cut(s)
		if e != api.OK {
			continue
		}
		if name+rest != s || !token.Is(name) || rest != "" && token.Is(rest[:1]) {
			t.Fatalf("%q: %q %q", s, name, rest)
		}
	}
}

// P5.8

func TestSameIsAnEquivalence(t *testing.T) {
	r := rand.New(rand.NewSource(8))
	l := append(shortTexts("aAbB", 2), "[", "{", "@", "`", "\xe4", "\xc4", "k", "\u212a", "\xff", "\ufffd")
	for _, s := range samples()[:100] {
		l = append(l, s, mixed(s, r))
	}
	for _, a := range l {
		if !token.Same(a, a) || !token.Same(a, token.Lower(a)) {
			t.Fatalf("%q", a)
		}
		for _, b := range l {
			same := token.Same(a, b)
			if same != token.Same(b, a) || same != (token.Lower(a) == token.Lower(b)) {
				t.Fatalf("%q %q", a, b)
			}
			for _, c := range l {
				if same && token.Same(b, c) && !token.Same(a, c) {
					t.Fatalf("%q %q %q", a, b, c)
				}
			}
		}
	}
}
