package query_test

import (
	"math/rand"
	"slices"
	"strings"
	"testing"
	"unsafe"

	"waypost/api"
	"waypost/byteset"
	"waypost/query"
)

// named returns a pair.
func named(name, value string) api.Pair {
	return api.Pair{Name: name, Value: value}
}

// bare returns a pair without =.
func bare(name string) api.Pair {
	return api.Pair{Name: name, Bare: true}
}

// P16.1 to P16.4

func TestShortTexts(t *testing.T) {
	for _, s := range shortTexts("a&=%4+", 6) {
		check(t, s)
	}
	for _, s := range shortTexts("%2fFg", 6) {
		check(t, s)
	}
	for _, s := range shortTexts("a&=", 8) {
		check(t, s)
		checkGet(t, s)
	}
	for _, s := range shortTexts("a &#\"\x7f", 4) {
		check(t, s)
	}
	for _, s := range only(shortTexts("a=&%61", 6), isCorrect) {
		checkGet(t, s)
	}
}

func TestTwoShortTexts(t *testing.T) {
	l := shortTexts("a&=%", 3)
	for _, a := range l {
		for _, b := range l {
			checkTwo(t, a, b)
		}
	}
}

func TestShortLists(t *testing.T) {
	for _, l := range shortLists(smallPairs("", "a", "="), 3) {
		checkJoin(t, l)
	}
	for _, l := range shortLists(smallPairs("", "a", "%41", "é", "&", "a b"), 2) {
		checkJoin(t, l)
	}
}

func TestOrderOfErrors(t *testing.T) {
	l := append(wrong(), "", "a", "&", strings.Repeat("a", 64), strings.Repeat("a", 128))
	for _, a := range l {
		check(t, a)
		for _, b := range l {
			checkTwo(t, a, b)
			check(t, a+b)
		}
	}
}

func TestEveryByte(t *testing.T) {
	l := everyByte()
	for i, s := range l {
		check(t, s)
		checkGet(t, s)
		checkTwo(t, s, "a=1")
		checkTwo(t, "a=1", s)
		checkTwo(t, s, l[(i+1)%len(l)])
		checkTwo(t, s, l[(i+29)%len(l)])
		checkJoin(t, []api.Pair{named(s, "a"), bare(s), named("a", s)})
	}
}

func TestEveryEscape(t *testing.T) {
	for _, s := range everyEscape() {
		check(t, s)
		checkGet(t, s)
	}
}

func TestSamples(t *testing.T) {
	r := rand.New(rand.NewSource(1))
	l := samples(8000)
	kept := only(l, isCorrect)
	if len(kept) < 1500 {
		t.Fatal(len(kept))
	}
	for _, s := range l {
		check(t, s)
		checkTwo(t, s, l[r.Intn(len(l))])
	}
	for _, s := range kept {
		checkGet(t, s)
		checkTwo(t, s, kept[r.Intn(len(kept))])
	}
	for _, pairs := range randomPairs(10000) {
		checkJoin(t, pairs)
	}
}

func TestLengths(t *testing.T) {
	l := ofLengths()
	for i, s := range l {
		check(t, s)
		for j := range 20 {
			checkTwo(t, s, l[(31*i+j)%len(l)])
			checkTwo(t, l[(37*i+j)%len(l)], s)
		}
		checkTwo(t, s, s)
		checkTwo(t, s, strings.Repeat("b", max(0, 127-len(s))))
		checkTwo(t, s, strings.Repeat("b", max(0, 128-len(s))))
		checkJoin(t, []api.Pair{bare(s)})
		checkJoin(t, []api.Pair{named(s, "")})
		checkJoin(t, []api.Pair{named("", s)})
		checkJoin(t, []api.Pair{bare("a"), named("b", s), bare("c")})
	}
	for n := range 70 {
		checkJoin(t, slices.Repeat([]api.Pair{bare("a")}, n))
		checkJoin(t, slices.Repeat([]api.Pair{named("", "")}, n))
		checkJoin(t, slices.Repeat([]api.Pair{named("", "+")}, n))
	}
}

func TestVeryLong(t *testing.T) {
	for _, s := range []string{"a", "&", "=", "%", "%41", "#", "\xff", "a=1&"} {
		long := strings.Repeat(s, 1<<18)
		if code := query.Encode(long); code != strings.Repeat(query.Encode(s), 1<<18) {
			t.Errorf("%q: %.80q", s, code)
		}
		if e := query.Literal(long); e != query.Literal(s) {
			t.Errorf("%q: %v", s, e)
		}
		if e := query.Check(long); e != api.ErrLong {
			t.Errorf("%q: %v", s, e)
		}
		checkTwo(t, long, "#")
		checkTwo(t, "#", long)
		checkTwo(t, "a", long)
		list := slices.Repeat([]api.Pair{named(long, long)}, 1<<18)
		if q, e := query.Join(list); q != "" || e != api.ErrLong {
			t.Errorf("%q: %.80q %v", s, q, e)
		}
		if q, e := query.Join(append(list, bare(""))); q != "" || e != api.ErrForm {
			t.Errorf("%q: %.80q %v", s, q, e)
		}
	}
}

// P16.1

func TestStay(t *testing.T) {
	s := query.Stay()
	for b := range 256 {
		want := 'a' <= b && b <= 'z' || 'A' <= b && b <= 'Z' || '0' <= b && b <= '9' || strings.IndexByte("-._~/:@!*(),$", byte(b)) >= 0
		if byteset.Has(s, byte(b)) != want {
			t.Errorf("%q", rune(b))
		}
	}
	if n := byteset.Count(s); n != 26+26+10+13 {
		t.Error(n)
	}
}

func TestEncode(t *testing.T) {
	for s, want := range map[string]string{
		"a b&c=%/é":          "a%20b%26c%3D%25/%C3%A9",
		"":                   "",
		"a":                  "a",
		" ":                  "%20",
		"aZ09-._~/:@!*(),$":  "aZ09-._~/:@!*(),$",
		"%41":                "%2541",
		"&=+;#?\"'":          "%26%3D%2B%3B%23%3F%22%27",
		"[\\]^`{|}<>":        "%5B%5C%5D%5E%60%7B%7C%7D%3C%3E",
		"\x00\x1f\x7f\x80ÿ":  "%00%1F%7F%80%C3%BF",
		"\xab\xcd\xef\n\r\t": "%AB%CD%EF%0A%0D%09",
		" a b ":              "%20a%20b%20",
	} {
		if code := query.Encode(s); code != want {
			t.Errorf("%q: %q", s, code)
		}
	}
}

func TestCheck(t *testing.T) {
	long := strings.Repeat("~", 128)
	for q, want := range map[string]api.Errno{
		"":              api.OK,
		"a b":           api.ErrForm,
		"a#":            api.ErrForm,
		"!\"$%&'()*+,":  api.OK,
		"~":             api.OK,
		"\x7f":          api.ErrForm,
		"\x80":          api.ErrForm,
		"é":             api.ErrForm,
		"\x00":          api.ErrForm,
		"\x1f":          api.ErrForm,
		"a\n":           api.ErrForm,
		"%":             api.OK,
		"%zz&&==":       api.OK,
		"?a=?":          api.OK,
		"[]{}<>\\^`|":   api.OK,
		long:            api.OK,
		long[1:] + "#":  api.ErrForm,
		long + "~":      api.ErrLong,
		long + "#":      api.ErrLong,
		"#" + long:      api.ErrLong,
		long + long:     api.ErrLong,
		" " + long[:10]: api.ErrForm,
	} {
		if e := query.Check(q); e != want {
			t.Errorf("%.80q: %v", q, e)
		}
	}
}

func TestLiteral(t *testing.T) {
	for s, want := range map[string]api.Errno{
		"a=b&c;d+%41":                    api.OK,
		"%4":                             api.ErrForm,
		"a?b":                            api.ErrForm,
		"a\"b":                           api.ErrForm,
		"":                               api.OK,
		"&&==++;;":                       api.OK,
		"%":                              api.ErrForm,
		"a%":                             api.ErrForm,
		"%4g":                            api.ErrForm,
		"%g4":                            api.ErrForm,
		"%%41":                           api.ErrForm,
		"%aA%Aa%09%fF":                   api.OK,
		"%4%41":                          api.ErrForm,
		"%41%":                           api.ErrForm,
		"%20 ":                           api.ErrForm,
		"a#b":                            api.ErrForm,
		"'":                              api.ErrForm,
		"[":                              api.ErrForm,
		"é":                              api.ErrForm,
		"\x00":                           api.ErrForm,
		"aZ09-._~/:@!*(),$":              api.OK,
		strings.Repeat("a", 129):         api.OK,
		strings.Repeat("a", 999) + "%20": api.OK,
		strings.Repeat("a", 999) + "%2":  api.ErrForm,
	} {
		if e := query.Literal(s); e != want {
			t.Errorf("%.80q: %v", s, e)
		}
	}
}

// P16.2

func TestPairs(t *testing.T) {
	for q, want := range map[string][]api.Pair{
		"a=1&&b&=2&c=d=e": {named("a", "1"), bare("b"), named("", "2"), named("c", "d=e")},
		"":                nil,
		"&":               nil,
		"&&&":             nil,
		"=":               {named("", "")},
		"==":              {named("", "=")},
		"=&=":             {named("", ""), named("", "")},
		"a":               {bare("a")},
		"a=":              {named("a", "")},
		"&a&":             {bare("a")},
		"a&a=1&a":         {bare("a"), named("a", "1"), bare("a")},
		"a%3d=%2B":        {named("a%3d", "%2B")},
		"a%26b":           {bare("a%26b")},
		"a%3":             {bare("a%3")},
		"%=%zz&%4&1":      {named("%", "%zz"), bare("%4"), bare("1")},
		"a;b=c;d":         {named("a;b", "c;d")},
		"a+b=c+d":         {named("a+b", "c+d")},
		"?a=?":            {named("?a", "?")},
	} {
		if l, e := query.Pairs(q); !slices.Equal(l, want) || e != api.OK {
			t.Errorf("%q: %v %v", q, l, e)
		}
	}
}

func TestDecoded(t *testing.T) {
	for q, want := range map[string][]api.Pair{
		"a%3d=%2B":        {named("a=", "+")},
		"":                nil,
		"&&":              nil,
		"a=1&&b&=2&c=d=e": {named("a", "1"), bare("b"), named("", "2"), named("c", "d=e")},
		"a%26b":           {bare("a&b")},
		"a%3D1":           {bare("a=1")},
		"a%3d1=%3D":       {named("a=1", "=")},
		"%2541=%2525":     {named("%41", "%25")},
		"+=a+b":           {named("+", "a+b")},
		"%00=%fF%Ff":      {named("\x00", "\xff\xff")},
		"%20&%23":         {bare(" "), bare("#")},
		"%c3%A9":          {bare("é")},
		"%61=1&a=2":       {named("a", "1"), named("a", "2")},
	} {
		if l, e := query.Decoded(q); !slices.Equal(l, want) || e != api.OK {
			t.Errorf("%q: %v %v", q, l, e)
		}
	}
	for _, q := range []string{"a%3", "%", "a=%", "a&b&c=%4&d", "%4=1", "%4&1"} {
		if l, e := query.Decoded(q); l != nil || e != api.ErrForm {
			t.Errorf("%q: %v %v", q, l, e)
		}
	}
}

// Decoded, Get and Canonical return the same error for each query that is not correct, Pairs only that of Check; nothing else comes with it.
func TestErrors(t *testing.T) {
	for _, s := range wrong() {
		want := query.Check(s)
		pairs, e := query.Pairs(s)
		if e != want || e != api.OK && pairs != nil {
			t.Errorf("%.80q: %v %v", s, pairs, e)
		}
		if want == api.OK {
			want = api.ErrForm
		}
		l, e := query.Decoded(s)
		value, f := query.Get(s, "a")
		canonical, g := query.Canonical(s)
		if l != nil || value != "" || canonical != "" || e != want || f != want || g != want {
			t.Errorf("%.80q: %v %v, %q %v, %q %v, not %v", s, l, e, value, f, canonical, g, want)
		}
	}
}

func TestGet(t *testing.T) {
	for _, c := range []struct {
		q, name, value string
		e              api.Errno
	}{
		{"a=1&b=2&a=3", "a", "1", api.OK},
		{"a", "a", "", api.OK},
		{"a", "b", "", api.ErrMissing},
		{"a=1&b=2&a=3", "b", "2", api.OK},
		{"a&a=1", "a", "", api.OK},
		{"a=&a=1", "a", "", api.OK},
		{"a=1&a", "a", "1", api.OK},
		{"", "", "", api.ErrMissing},
		{"&&", "", "", api.ErrMissing},
		{"a=1", "", "", api.ErrMissing},
		{"=1", "", "1", api.OK},
		{"a&=&=1", "", "", api.OK},
		{"%61=%62", "a", "b", api.OK},
		{"%61=%62", "%61", "", api.ErrMissing},
		{"%2561=1", "%61", "1", api.OK},
		{"a=1", "A", "", api.ErrMissing},
		{"a=1", "a=", "", api.ErrMissing},
		{"a=1", "a=1", "", api.ErrMissing},
		{"a%3D1", "a=1", "", api.OK},
		{"a=b=c", "a", "b=c", api.OK},
		{"%26=%3d&&=", "&", "=", api.OK},
		{"a+b=1", "a b", "", api.ErrMissing},
		{"a=1&b=%", "a", "", api.ErrForm},
		{"a=1&b=%", "c", "", api.ErrForm},
		{"a=1", "é", "", api.ErrMissing},
		{"%c3%a9=1", "é", "1", api.OK},
		{"a=1", strings.Repeat("a", 1000), "", api.ErrMissing},
	} {
		if value, e := query.Get(c.q, c.name); value != c.value || e != c.e {
			t.Errorf("%q, %.80q: %q %v", c.q, c.name, value, e)
		}
	}
}

// P16.3

func TestJoin(t *testing.T) {
	long := strings.Repeat("a", 128)
	for _, c := range []struct {
		l    []api.Pair
		want string
		e    api.Errno
	}{
		{nil, "", api.OK},
		{[]api.Pair{}, "", api.OK},
		{[]api.Pair{named("a", "1")}, "a=1", api.OK},
		{[]api.Pair{bare("a")}, "a", api.OK},
		{[]api.Pair{named("a", "")}, "a=", api.OK},
		{[]api.Pair{named("", "a")}, "=a", api.OK},
		{[]api.Pair{named("", "")}, "=", api.OK},
		{[]api.Pair{named("", ""), named("", "")}, "=&=", api.OK},
		{[]api.Pair{named("b", "2"), bare("a"), named("b", "2")}, "b=2&a&b=2", api.OK},
		{[]api.Pair{named("a=", "b&c"), bare("d=e&")}, "a%3D=b%26c&d%3De%26", api.OK},
		{[]api.Pair{named("%41", "+")}, "%2541=%2B", api.OK},
		{[]api.Pair{named("é", "\x00#")}, "%C3%A9=%00%23", api.OK},
		{[]api.Pair{bare("")}, "", api.ErrForm},
		{[]api.Pair{named("a", "1"), bare("")}, "", api.ErrForm},
		{[]api.Pair{bare(""), named("a", "1")}, "", api.ErrForm},
		{[]api.Pair{{Name: "a", Value: "1", Bare: true}}, "", api.ErrForm},
		{[]api.Pair{{Value: "1", Bare: true}}, "", api.ErrForm},
		{[]api.Pair{bare("a"), {Name: "a", Value: "1", Bare: true}}, "", api.ErrForm},
		{[]api.Pair{bare(long)}, long, api.OK},
		{[]api.Pair{bare(long + "a")}, "", api.ErrLong},
		{[]api.Pair{named(long[1:], "")}, long[1:] + "=", api.OK},
		{[]api.Pair{named(long, "")}, "", api.ErrLong},
		{[]api.Pair{named("", long[1:])}, "=" + long[1:], api.OK},
		{[]api.Pair{named("", long)}, "", api.ErrLong},
		{[]api.Pair{bare(long[2:]), bare("b")}, long[2:] + "&b", api.OK},
		{[]api.Pair{bare(long[1:]), bare("b")}, "", api.ErrLong},
		{[]api.Pair{bare(long[2:]), named("b", "")}, "", api.ErrLong},
		{[]api.Pair{bare(strings.Repeat(" ", 42) + "ab")}, strings.Repeat("%20", 42) + "ab", api.OK},
		{[]api.Pair{bare(strings.Repeat(" ", 43))}, "", api.ErrLong},
		{[]api.Pair{bare(long + "a"), bare("")}, "", api.ErrForm},
		{[]api.Pair{bare(long + "a"), {Name: "a", Value: "1", Bare: true}}, "", api.ErrForm},
		{[]api.Pair{bare(""), bare(long + "a")}, "", api.ErrForm},
		{[]api.Pair{{Name: long + "a", Value: "1", Bare: true}}, "", api.ErrForm},
	} {
		if q, e := query.Join(c.l); q != c.want || e != c.e {
			t.Errorf("%.80v: %.80q %v", c.l, q, e)
		}
	}
}

// P16.4

func TestAppend(t *testing.T) {
	long := strings.Repeat("a", 128)
	for _, c := range []struct {
		q, more, want string
		e             api.Errno
	}{
		{"x=1", "y=2", "y=2&x=1", api.OK},
		{"x=1", "", "x=1", api.OK},
		{long[:100], long[:28], "", api.ErrLong},
		{"", "y=2", "y=2", api.OK},
		{"", "", "", api.OK},
		{"&", "", "&", api.OK},
		{"", "&", "&", api.OK},
		{"&", "&", "&&&", api.OK},
		{"x&", "&y", "&y&x&", api.OK},
		{"%", "%zz", "%zz&%", api.OK},
		{"a%3d", "%7e", "%7e&a%3d", api.OK},
		{long[:100], long[:27], long[:27] + "&" + long[:100], api.OK},
		{long[:126], "b", "b&" + long[:126], api.OK},
		{"b", long[:126], long[:126] + "&b", api.OK},
		{long[:127], "b", "", api.ErrLong},
		{"b", long[:127], "", api.ErrLong},
		{long, "", long, api.OK},
		{"", long, long, api.OK},
		{long, "b", "", api.ErrLong},
		{long, long, "", api.ErrLong},
		{long + "a", "", "", api.ErrLong},
		{"", long + "a", "", api.ErrLong},
		{"#", "a", "", api.ErrForm},
		{"a", "#", "", api.ErrForm},
		{"#", long + "a", "", api.ErrForm},
		{long + "a", "#", "", api.ErrLong},
		{"#", "", "", api.ErrForm},
		{"", "a b", "", api.ErrForm},
		{long, "#", "", api.ErrForm},
		{"#", long, "", api.ErrForm},
	} {
		if q, e := query.Append(c.q, c.more); q != c.want || e != c.e {
			t.Errorf("%.80q, %.80q: %.80q %v", c.q, c.more, q, e)
		}
	}
}

func TestCanonical(t *testing.T) {
	long := strings.Repeat("a", 128)
	for _, c := range []struct {
		q, want string
		e       api.Errno
	}{
		{"&a=%7e&&b", "a=~&b", api.OK},
		{"a=+", "a=%2B", api.OK},
		{"%zz", "", api.ErrForm},
		{"", "", api.OK},
		{"&&", "", api.OK},
		{"=", "=", api.OK},
		{"==", "=%3D", api.OK},
		{"a=", "a=", api.OK},
		{"a", "a", api.OK},
		{"%61=%62", "a=b", api.OK},
		{"a%3d", "a%3D", api.OK},
		{"a%3db=c", "a%3Db=c", api.OK},
		{"b=2&a=1&b=2&", "b=2&a=1&b=2", api.OK},
		{"a%26b&c", "a%26b&c", api.OK},
		{"%c3%a9", "%C3%A9", api.OK},
		{"a;b?c", "a%3Bb%3Fc", api.OK},
		{"%25=%2541", "%25=%2541", api.OK},
		{long, long, api.OK},
		{long + "a", "", api.ErrLong},
		{"#", "", api.ErrForm},
		{strings.Repeat("\"", 42) + "ab", strings.Repeat("%22", 42) + "ab", api.OK},
		{strings.Repeat("\"", 42) + "abc", "", api.ErrLong},
		{strings.Repeat("\"", 43), "", api.ErrLong},
		{long[:127] + "\"", "", api.ErrLong},
		{"&&" + long[:126], long[:126], api.OK},
		{"&&" + long[:125] + "\"", long[:125] + "%22", api.OK},
		{"&&" + long[:126], long[:126], api.OK},
		{long[:127] + "%", "", api.ErrForm},
		{strings.Repeat("\"", 127) + "%", "", api.ErrForm},
		{strings.Repeat("%41", 42) + "%4", "", api.ErrForm},
	} {
		if q, e := query.Canonical(c.q); q != c.want || e != c.e {
			t.Errorf("%.80q: %.80q %v", c.q, q, e)
		}
	}
}

// P16.5

func TestCodes(t *testing.T) {
	texts := slices.Concat(shortTexts("a %4/\xff", 5), shortTexts("%2f", 6), everyByte(), samples(8000), ofLengths())
	strung := map[string]string{}
	for _, s := range texts {
		code := query.Encode(s)
		if !codeForm.MatchString(code) || query.Literal(code) != api.OK {
			t.Fatalf("%.80q: %.80q", s, code)
		}
		if decodeOf(code) != s {
			t.Fatalf("%.80q: %.80q", s, code)
		}
		if other, has := strung[code]; has && other != s {
			t.Fatalf("%.80q and %.80q: %.80q", s, other, code)
		}
		strung[code] = s
		if s == "" || len(code) > 128 {
			continue
		}
		if l, e := query.Decoded(code); !slices.Equal(l, []api.Pair{bare(s)}) || e != api.OK {
			t.Fatalf("%.80q: %v %v", s, l, e)
		}
	}
}

// P16.6

func TestDecodedOfJoin(t *testing.T) {
	l := slices.Concat(shortLists(smallPairs("", "a", "=&", "%41"), 2), randomPairs(10000))
	for _, q := range only(slices.Concat(shortTexts("a&=%4", 6), samples(8000)), isCorrect) {
		pairs, _ := query.Decoded(q)
		l = append(l, pairs)
	}
	joined := 0
	for _, pairs := range l {
		q, e := query.Join(pairs)
		if e != api.OK {
			continue
		}
		joined++
		if again, e := query.Decoded(q); !slices.Equal(again, pairs) || e != api.OK {
			t.Fatalf("%v: %q, %v %v", pairs, q, again, e)
		}
	}
	if joined < 20000 {
		t.Error(joined)
	}
}

// P16.7

func TestCanonicalOfCanonical(t *testing.T) {
	for _, q := range only(slices.Concat(shortTexts("a&=%4+", 6), everyByte(), everyEscape(), samples(8000), ofLengths()), isCorrect) {
		canonical, e := query.Canonical(q)
		if e != api.OK {
			continue
		}
		if again, e := query.Canonical(canonical); again != canonical || e != api.OK {
			t.Fatalf("%q: %q, %q %v", q, canonical, again, e)
		}
		want, _ := query.Decoded(q)
		if l, e := query.Decoded(canonical); !slices.Equal(l, want) || e != api.OK {
			t.Fatalf("%q: %q, %v %v", q, canonical, l, e)
		}
	}
}

// P16.8

func TestPairsOfAppend(t *testing.T) {
	r := rand.New(rand.NewSource(2))
	l := only(slices.Concat(shortTexts("a&=%", 3), samples(1000), ofLengths()), isQuery)
	for _, q := range l {
		for range 50 {
			more := l[r.Intn(len(l))]
			both, e := query.Append(q, more)
			if e != api.OK {
				continue
			}
			in, _ := query.Pairs(q)
			before, _ := query.Pairs(more)
			if pairs, e := query.Pairs(both); !slices.Equal(pairs, slices.Concat(before, in)) || e != api.OK {
				t.Fatalf("%q, %q: %q %v %v", q, more, both, pairs, e)
			}
		}
	}
}

// P16.9

func TestEncodeGoesThrough(t *testing.T) {
	for _, s := range slices.Concat(shortTexts("a %/\xff", 5), everyByte(), samples(5000)) {
		want := query.Encode(s)
		for at := range len(s) + 1 {
			if query.Encode(s[:at])+query.Encode(s[at:]) != want {
				t.Fatalf("%q: %q", s, want)
			}
		}
	}
}

// R4

func TestResultsAreNew(t *testing.T) {
	s := strings.Clone("abc=def&ghi")
	if !isNew(query.Encode(s[:3]), s) {
		t.Error("Encode")
	}
	for name, of := range map[string]func(string) ([]api.Pair, api.Errno){"Pairs": query.Pairs, "Decoded": query.Decoded} {
		l, _ := of(s)
		m, _ := of(s)
		for i := range l {
			if !isNew(l[i].Name, s) || !isNew(l[i].Value, s) || !isNew(l[i].Name, m[i].Name) || !isNew(l[i].Value, m[i].Value) {
				t.Error(name)
			}
		}
		if unsafe.SliceData(l) == unsafe.SliceData(m) {
			t.Error(name)
		}
	}
	if value, _ := query.Get(s, "abc"); value != "def" || !isNew(value, s) {
		t.Error("Get")
	}
	if q, _ := query.Join([]api.Pair{bare(s[:3])}); !isNew(q, s) {
		t.Error("Join")
	}
	for _, l := range [][2]string{{s, ""}, {"", s}} {
		if q, _ := query.Append(l[0], l[1]); q != s || !isNew(q, s) {
			t.Error("Append")
		}
	}
	if q, _ := query.Canonical(s); q != s || !isNew(q, s) {
		t.Error("Canonical")
	}
}

func TestArgumentsStay(t *testing.T) {
	for _, l := range append(shortLists(smallPairs("", "a", "="), 2), randomPairs(1000)...) {
		l = append(slices.Clip(slices.Clone(l)), named("spare", "%41"))
		was := slices.Clone(l)
		checkJoin(t, l[:len(l)-1])
		if !slices.Equal(l, was) {
			t.Fatalf("%v: %v", was, l)
		}
	}
}
