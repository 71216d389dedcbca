package byteset_test

import (
	"strings"
	"testing"

	"waypost/api"
	"waypost/byteset"
)

// plain are the bytes that are written as themselves.
const plain = "abcdefghijklmnopqrstuvwxyzABCDEFGHIJKLMNOPQRSTUVWXYZ0123456789!#$%&'*+,./:;<=>?@_`{|}~()"

// escape is a byte as \x and two of the given digits.
func escape(b int, digits string) string {
	return `\x` + string([]byte{digits[b/16], digits[b%16]})
}

// written is how a byte is written.
func written(b int) string {
	if one := string([]byte{byte(b)}); strings.Contains(plain, one) {
		return one
	}
	return escape(b, "0123456789abcdef")
}

// text is the text of a model.
func (m model) text() string {
	var out strings.Builder
	for b := 0; b < 256; b++ {
		if !m[b] {
			continue
		}
		low := b
		for b < 255 && m[b+1] {
			b++
		}
		switch {
		case b == low:
			out.WriteString(written(low))
		case b == low+1:
			out.WriteString(written(low) + written(b))
		default:
			out.WriteString(written(low) + "-" + written(b))
		}
	}
	return out.String()
}

// P1.3

func TestText(t *testing.T) {
	for _, c := range []struct {
		s    api.Set
		want string
	}{
		{api.Set{}, ""},
		{of("ab"), "ab"},
		{of("abc"), "a-c"},
		{of("abd"), "abd"},
		{of("-"), `\x2d`},
		{byteset.Of(128, ' '), `\x20\x80`},
		{byteset.Not(byteset.Of(0)), `\x01-\xff`},
		{byteset.Common(), `\x00-\xff`},
		{byteset.Of(254, 255), `\xfe\xff`},
		{byteset.Of(0, 255), `\x00\xff`},
		{of(`[\]^`), `\x5b-\x5e`},
		{of("aA"), "Aa"},
		{of(",-."), ",-."},
	} {
		if text := byteset.Text(c.s); text != c.want {
			t.Error(c.want, text)
		}
	}
}

func TestTextOfSamples(t *testing.T) {
	for i, m := range samples() {
		if text := byteset.Text(m.set()); text != m.text() {
			t.Fatal(i, text, m.text())
		}
	}
}

// P1.3 and P1.7, for all sets of one run.
func TestTextOfEveryRun(t *testing.T) {
	for low := range 256 {
		var m model
		for high := low; high < 256; high++ {
			m[high] = true
			text := byteset.Text(m.set())
			if s, e := byteset.Parse(text); text != m.text() || s != m.set() || e != api.OK {
				t.Fatal(low, high, text, s, e)
			}
		}
	}
}

func TestParse(t *testing.T) {
	for text, want := range map[string]string{
		"":              "",
		"a-cx":          "abcx",
		`\x41`:          "A",
		`\x4A-\x4c`:     "JKL",
		`\x4a-L`:        "JKL",
		`J-\x4C`:        "JKL",
		"ba":            "ab",
		"aa":            "a",
		"a-bb-c":        "abc",
		"x-za-c":        "abcxyz",
		"a-cb":          "abc",
		`\x2d`:          "-",
		`,-\x2d`:        ",-",
		`\x2d-/`:        "-./",
		`\x00\xFf\xfF`:  "\x00\xff",
		`\x5c\x5b\x5Da`: `\[]a`,
	} {
		if s, e := byteset.Parse(text); s != of(want) || e != api.OK {
			t.Error(text, s, e)
		}
	}
}

func TestParseErrors(t *testing.T) {
	for text, want := range map[string]api.Errno{
		"c-a":                           api.ErrOrder,
		"a-a":                           api.ErrOrder,
		`\x61-a`:                        api.ErrOrder,
		`a-\x2d`:                        api.ErrOrder,
		"xyzc-axyz":                     api.ErrOrder,
		"a-":                            api.ErrForm,
		"-":                             api.ErrForm,
		"-a":                            api.ErrForm,
		"--a":                           api.ErrForm,
		"a--":                           api.ErrForm,
		"a-b-c":                         api.ErrForm,
		"a-[":                           api.ErrForm,
		"a b":                           api.ErrForm,
		"ab[":                           api.ErrForm,
		"\xe4":                          api.ErrForm,
		`\`:                             api.ErrForm,
		`\x`:                            api.ErrForm,
		`\x4`:                           api.ErrForm,
		`a-\x4`:                         api.ErrForm,
		`\X41`:                          api.ErrForm,
		`\41`:                           api.ErrForm,
		`\\`:                            api.ErrForm,
		`/x41\`:                         api.ErrForm,
		`x41\`:                          api.ErrForm,
		"c-a[":                          api.ErrOrder,
		"[c-a":                          api.ErrForm,
		"c-[":                           api.ErrForm,
		strings.Repeat("z", 1000) + "-": api.ErrForm,
	} {
		if s, e := byteset.Parse(text); s != (api.Set{}) || e != want {
			t.Error(text, s, e)
		}
	}
}

// Each byte alone, and as an escape in all cases of its digits.
func TestParseEveryByte(t *testing.T) {
	for b := range 256 {
		one := string([]byte{byte(b)})
		s, e := byteset.Parse(one)
		if strings.Contains(plain, one) {
			if s != byteset.Of(byte(b)) || e != api.OK {
				t.Error(b, s, e)
			}
		} else if s != (api.Set{}) || e != api.ErrForm {
			t.Error(b, s, e)
		}
		for _, digits := range []string{"0123456789abcdef", "0123456789ABCDEF", "0123456789aBcDeF"} {
			if s, e := byteset.Parse(escape(b, digits)); s != byteset.Of(byte(b)) || e != api.OK {
				t.Error(escape(b, digits), s, e)
			}
		}
	}
}

func TestParseEveryDigit(t *testing.T) {
	for b := range 256 {
		one := string([]byte{byte(b)})
		good := strings.Contains("0123456789abcdefABCDEF", one)
		for _, text := range []string{`\x` + one + "0", `\x0` + one, `!-\xf` + one, `\x00-\x` + one + "f"} {
			s, e := byteset.Parse(text)
			if good && e != api.OK || !good && (s != (api.Set{}) || e != api.ErrForm) {
				t.Errorf("%q %v %v", text, s, e)
			}
		}
	}
}

func TestParseEveryRange(t *testing.T) {
	for low := range 256 {
		var m model
		for high := range 256 {
			text := written(low) + "-" + escape(high, "0123456789ABCDEF")
			m[high] = high >= low
			s, e := byteset.Parse(text)
			if high > low && (s != m.set() || e != api.OK) || high <= low && (s != api.Set{} || e != api.ErrOrder) {
				t.Fatal(text, s, e)
			}
		}
	}
}

func TestParseLength(t *testing.T) {
	for _, c := range []struct {
		text string
		want api.Errno
	}{
		{strings.Repeat("a", 1024), api.OK},
		{strings.Repeat("a", 1025), api.ErrLong},
		{strings.Repeat("a-b", 341) + "c", api.OK},
		{strings.Repeat(`\x61`, 256), api.OK},
		{strings.Repeat(`\x61`, 256) + "a", api.ErrLong},
		{strings.Repeat("[", 1024), api.ErrForm},
		{strings.Repeat("[", 1025), api.ErrLong},
		{"c-a" + strings.Repeat("a", 1022), api.ErrLong},
		{strings.Repeat("a", 1021) + "c-a", api.ErrOrder},
		{strings.Repeat("-", 1000000), api.ErrLong},
	} {
		s, e := byteset.Parse(c.text)
		if e != c.want || e != api.OK && s != (api.Set{}) || e == api.OK && !byteset.Has(s, 'a') {
			t.Error(len(c.text), c.text[:3], s, e)
		}
	}
}

// P1.7

func TestTextsAreReadBack(t *testing.T) {
	from := map[string]api.Set{}
	for i, m := range samples() {
		s := m.set()
		text := byteset.Text(s)
		if p, e := byteset.Parse(text); p != s || e != api.OK {
			t.Fatal(i, text, p, e)
		}
		if other, ok := from[text]; ok && other != s {
			t.Fatal(i, text, s, other)
		}
		from[text] = s
	}
}

// The longest texts must be short enough to be read: every second byte, and every third one missing.
func TestLongTextsAreReadBack(t *testing.T) {
	for step := 2; step < 6; step++ {
		for first := range step {
			var m model
			for b := range 256 {
				m[b] = b%step == first
			}
			for _, s := range []api.Set{m.set(), byteset.Not(m.set())} {
				if p, e := byteset.Parse(byteset.Text(s)); p != s || e != api.OK {
					t.Error(step, first, p, e)
				}
			}
		}
	}
}

// Texts that differ from the one written are read as sets whose text is the one written.
func TestTextOfWhatWasRead(t *testing.T) {
	for text, want := range map[string]string{"cba": "a-c", "a-b": "ab", "a-bb-c": "a-c", `\x41\x42`: "AB", "aa": "a"} {
		if s, e := byteset.Parse(text); byteset.Text(s) != want || e != api.OK {
			t.Error(text, byteset.Text(s), e)
		}
	}
}
