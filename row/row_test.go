package row_test

import (
	"fmt"
	"math/rand"
	"regexp"
	"slices"
	"strconv"
	"strings"
	"testing"
	"unsafe"

	"waypost/api"
	"waypost/row"
)

// The forms of the chapter's Terms; a word ends at a blank or at the end of its line.
var (
	bareForm   = regexp.MustCompile(`\A[!$-~][!#-~]*\z`)
	wordForm   = regexp.MustCompile(`\A([!$-~][!#-~]*|"([ !#-\[\]-~]|\\["\\]|\\x[0-9a-fA-F]{2})*")([ \t]|\z)`)
	escapeForm = regexp.MustCompile(`\\(["\\]|x..)`)
)

// contained is what a word contains.
func contained(word string) string {
	if word[0] != '"' {
		return word
	}
	return escapeForm.ReplaceAllStringFunc(word[1:len(word)-1], func(escape string) string {
		if len(escape) == 2 {
			return escape[1:]
		}
		b, err := strconv.ParseUint(escape[2:], 16, 8)
		if err != nil {
			panic(escape)
		}
		return string([]byte{byte(b)})
	})
}

// wordsOf are the words of a line, and the offset of the first one that is none, or -1.
func wordsOf(line string) ([]api.Word, int) {
	var l []api.Word
	for at := 0; ; {
		rest := strings.TrimLeft(line[at:], " \t")
		at = len(line) - len(rest)
		if rest == "" || rest[0] == '#' {
			return l, -1
		}
		m := wordForm.FindStringSubmatch(rest)
		if m == nil {
			return nil, at
		}
		l = append(l, api.Word{At: at, Text: contained(m[1]), Quoted: rest[0] == '"'})
		at += len(m[1])
	}
}

// rowsOf is what Rows should return.
func rowsOf(text string) ([]api.Row, api.Fault) {
	if len(text) > 20000 {
		return nil, api.Fault{Err: api.ErrLong, At: 20000}
	}
	var l []api.Row
	at := 0
	for _, line := range strings.Split(text, "\n") {
		if len(line) > 1000 {
			return nil, api.Fault{Err: api.ErrLong, At: at}
		}
		words, wrong := wordsOf(line)
		if wrong >= 0 {
			return nil, api.Fault{Err: api.ErrForm, At: at + wrong}
		}
		for i := range words {
			words[i].At += at
		}
		if len(words) > 0 {
			l = append(l, api.Row{At: at, Words: words})
		}
		at += len(line) + 1
	}
	return l, api.Fault{}
}

// equal returns whether rows are equal in all that they have.
func equal(a, b []api.Row) bool {
	return slices.EqualFunc(a, b, func(r, s api.Row) bool { return r.At == s.At && slices.Equal(r.Words, s.Words) })
}

// brief is the beginning of rows as they are reported.
func brief(rows []api.Row) string {
	s := fmt.Sprintf("%#v", rows)
	return s[:min(len(s), 200)]
}

// checkRows checks Rows of a text against the model.
func checkRows(t *testing.T, text string) {
	t.Helper()
	want, wantFault := rowsOf(text)
	if l, f := row.Rows(text); !equal(l, want) || f != wantFault {
		t.Fatalf("%.80q: %s %v, not %s %v", text, brief(l), f, brief(want), wantFault)
	}
}

// shortTexts are all strings of at most most bytes of an alphabet.
func shortTexts(alphabet string, most int) []string {
	l := []string{""}
	for from := 0; from < len(l) && len(l[from]) < most; from++ {
		for i := range len(alphabet) {
			l = append(l, l[from]+alphabet[i:i+1])
		}
	}
	return l
}

// samples are texts of rows, empty lines and remarks, most of them without a fault.
func samples() []string {
	r := rand.New(rand.NewSource(1))
	pieces := []string{"a", "/b", "a#b", `\d+`, `\`, "!", "~", `"`, `"x y"`, `""`, `"#"`, `"\"\\"`, `"\x41\xfF"`, `"\x0a"`, `"\x"`, "é", "#", "# all \"", "\r", "\x7f", " ", "\t", "  ", "\n", "\n\n"}
	var l []string
	for range 20000 {
		var b strings.Builder
		faults := r.Intn(10) == 0
		for range r.Intn(12) {
			piece := pieces[r.Intn(len(pieces))]
			if _, f := rowsOf(b.String() + " " + piece); f.Err == api.OK || faults {
				b.WriteString(strings.Repeat(" ", r.Intn(3)/2))
				b.WriteString(piece)
			}
			b.WriteString([]string{" ", "\t", "\n", " \t "}[r.Intn(4)])
		}
		l = append(l, b.String())
	}
	return l
}

// sound are the samples without a fault.
func sound() []string {
	return slices.DeleteFunc(samples(), func(text string) bool {
		_, f := rowsOf(text)
		return f.Err != api.OK
	})
}

// texts are the texts of words, row by row.
func texts(rows []api.Row) [][]string {
	var l [][]string
	for _, r := range rows {
		var words []string
		for _, w := range r.Words {
			words = append(words, w.Text)
		}
		l = append(l, words)
	}
	return l
}

// P4.1

func TestExamplesOfRows(t *testing.T) {
	for _, c := range []struct {
		text string
		want []api.Row
	}{
		{"dir /a  # all\nrule \"x y\" \\d+", []api.Row{
			{At: 0, Words: []api.Word{{At: 0, Text: "dir"}, {At: 4, Text: "/a"}}},
			{At: 14, Words: []api.Word{{At: 14, Text: "rule"}, {At: 19, Text: "x y", Quoted: true}, {At: 25, Text: `\d+`}}},
		}},
		{`"a\"b\\\x41"`, []api.Row{{Words: []api.Word{{Text: `a"b\A`, Quoted: true}}}}},
		{"a\t#b", []api.Row{{Words: []api.Word{{Text: "a"}}}}},
		{"a#b", []api.Row{{Words: []api.Word{{Text: "a#b"}}}}},
		{"", nil},
		{"\n\n", nil},
		{" \t \n\t", nil},
		{"# a \"\n#\r\xff", nil},
		{"\n\n  a\t\n", []api.Row{{At: 2, Words: []api.Word{{At: 4, Text: "a"}}}}},
		{`a "#" #`, []api.Row{{Words: []api.Word{{Text: "a"}, {At: 2, Text: "#", Quoted: true}}}}},
		{`"" "\xfF\x00"`, []api.Row{{Words: []api.Word{{Quoted: true}, {At: 3, Text: "\xff\x00", Quoted: true}}}}},
		{`\x41 a\`, []api.Row{{Words: []api.Word{{Text: `\x41`}, {At: 5, Text: `a\`}}}}},
		{"\"a\"\n\"b\"\t", []api.Row{{Words: []api.Word{{Text: "a", Quoted: true}}}, {At: 4, Words: []api.Word{{At: 4, Text: "b", Quoted: true}}}}},
	} {
		if l, f := row.Rows(c.text); !equal(l, c.want) || f != (api.Fault{}) {
			t.Errorf("%q: %v %v", c.text, l, f)
		}
	}
}

func TestWrongWords(t *testing.T) {
	for text, at := range map[string]int{
		`"a`:               0,
		`a"b`:              0,
		`a"`:               0,
		`"a"b`:             0,
		`"a""b"`:           0,
		`"a"#b`:            0,
		`"a\"`:             0,
		`"a\\\"`:           0,
		`"`:                0,
		`"\`:               0,
		`"\n"`:             0,
		`"\X41"`:           0,
		`"\x4"`:            0,
		`"\x`:              0,
		`"\x4g"`:           0,
		`"\x+4"`:           0,
		`"\x_4"`:           0,
		`"\x 4"`:           0,
		"\"a\tb\"":         0,
		"\"a\x7f\"":        0,
		"\"a\xc3\xa9\"":    0,
		"\"a\nb\"":         0,
		"\"\\\n\"":         0,
		"\"\\x4\n1\"":      0,
		"\xc3\xa9":         0,
		"a\x7f":            0,
		"a\x00":            0,
		"a\r\nb":           0,
		"a \r\nb":          2,
		"a\vb":             0,
		"\f":               0,
		"\xa0a":            0,
		"a b \"c":          4,
		" \t\"c":           2,
		"# \"\n\n a b\" c": 8,
		"a \"b\" c\" d\"":  6,
	} {
		if l, f := row.Rows(text); l != nil || f != (api.Fault{Err: api.ErrForm, At: at}) {
			t.Errorf("%q: %v %v", text, l, f)
		}
	}
}

// Each byte is where it may be, in words, between them and in remarks, and nowhere else.
func TestEveryByteInRows(t *testing.T) {
	for b := range 256 {
		one := string([]byte{byte(b)})
		for _, form := range []string{"%s", "a%s", "%sb", "a%sb", "a %s", "%s b", "a %s b", `"%s"`, `"a%sb"`, `"a"%s`, `"a"%s"b"`, `%s"a"`, `"\%s"`, `"\%s41"`, `"\x%s1"`, `"\x4%s"`, "#%s", "a #%s\nb"} {
			checkRows(t, fmt.Sprintf(form, one))
		}
	}
}

func TestShortTexts(t *testing.T) {
	for _, text := range shortTexts("a\"\\x4# \t\n\r\xe9", 5) {
		checkRows(t, text)
	}
	for _, text := range shortTexts("\"\\x4 #", 7) {
		checkRows(t, text)
	}
}

func TestSamples(t *testing.T) {
	for _, text := range samples() {
		checkRows(t, text)
	}
	if n := len(sound()); n < 15000 {
		t.Error("sound:", n)
	}
}

func TestLongLines(t *testing.T) {
	for _, c := range []struct {
		text string
		want api.Fault
	}{
		{strings.Repeat("a", 1000), api.Fault{}},
		{strings.Repeat("a", 1001), api.Fault{Err: api.ErrLong}},
		{strings.Repeat("a", 1000) + "\n", api.Fault{}},
		{strings.Repeat("a", 1001) + "\n", api.Fault{Err: api.ErrLong}},
		{strings.Repeat("a", 999) + "\n" + strings.Repeat("b", 1000) + "\nc", api.Fault{}},
		{"a\n" + strings.Repeat(" ", 1001), api.Fault{Err: api.ErrLong, At: 2}},
		{"a\n" + strings.Repeat(" ", 1000), api.Fault{}},
		{"#" + strings.Repeat("a", 1000), api.Fault{Err: api.ErrLong}},
		{"#" + strings.Repeat("a", 999), api.Fault{}},
		{`"` + strings.Repeat("a", 998) + `"`, api.Fault{}},
		{`"` + strings.Repeat("a", 999) + `"`, api.Fault{Err: api.ErrLong}},
		{strings.Repeat("\\x41", 250), api.Fault{}},
		// Of two faults, the first line has its own; within a line, the length comes first.
		{"ok\na \"\n" + strings.Repeat("a", 1001), api.Fault{Err: api.ErrForm, At: 5}},
		{"ok\n" + strings.Repeat("a", 1001) + "\n\"", api.Fault{Err: api.ErrLong, At: 3}},
		{"ok\n\"" + strings.Repeat("a", 1001), api.Fault{Err: api.ErrLong, At: 3}},
	} {
		l, f := row.Rows(c.text)
		if f != c.want || c.want != (api.Fault{}) && l != nil {
			t.Errorf("%.20q: %v", c.text, f)
		}
		checkRows(t, c.text)
	}
}

func TestLongTexts(t *testing.T) {
	line := strings.Repeat("a", 999) + "\n"
	full := strings.Repeat(line, 20)
	for text, want := range map[string]api.Fault{
		full:                          {},
		full[:19999]:                  {},
		full + "\n":                   {Err: api.ErrLong, At: 20000},
		full + "a":                    {Err: api.ErrLong, At: 20000},
		strings.Repeat("\n", 20000):   {},
		strings.Repeat("\n", 20001):   {Err: api.ErrLong, At: 20000},
		strings.Repeat("a\n", 10000):  {},
		strings.Repeat("\"", 1000000): {Err: api.ErrLong, At: 20000},
		strings.Repeat("a", 1000000):  {Err: api.ErrLong, At: 20000},
		strings.Repeat("a", 20000):    {Err: api.ErrLong},
	} {
		if l, f := row.Rows(text); f != want || want != (api.Fault{}) && l != nil {
			t.Errorf("%d bytes: %v", len(text), f)
		}
		checkRows(t, text)
	}
}

// What is returned shares no memory: neither lists of words with one another, nor words with the text.
func TestRowsAreNew(t *testing.T) {
	text := "a b\nc \"d\"\ne"
	l, _ := row.Rows(text)
	for i := range l {
		l[i].Words = append(l[i].Words, api.Word{Text: "z"})
		l[i].Words[0].Text = "y"
	}
	if got := texts(l); !slices.EqualFunc(got, [][]string{{"y", "b", "z"}, {"y", "d", "z"}, {"y", "z"}}, slices.Equal) {
		t.Error(got)
	}
	checkRows(t, text)
	long := strings.Repeat("ab", 100)
	again, _ := row.Rows(long)
	if unsafe.StringData(again[0].Words[0].Text) == unsafe.StringData(long) {
		t.Error("a part of the text")
	}
}

// P4.6

// What is read is never longer when it is written, but for a line feed at the end.
func TestTextOfRows(t *testing.T) {
	line := strings.Repeat("a", 999) + "\n"
	full := strings.Repeat(line, 20)
	for _, text := range append(sound(), full, full[:19999], strings.Repeat(`"\xff"`+strings.Repeat(" ", 100)+"a\n", 100)) {
		l, f := row.Rows(text)
		written, e := row.Text(l)
		if f != (api.Fault{}) || e != api.OK || len(written) > len(text)+1 {
			t.Fatalf("%.80q: %v %v", text, f, e)
		}
		again, f := row.Rows(written)
		if f != (api.Fault{}) || !slices.EqualFunc(texts(again), texts(l), slices.Equal) {
			t.Fatalf("%.80q: %.80q %v", text, written, f)
		}
	}
	l, f := row.Rows(full[:19999] + "a")
	if written, e := row.Text(l); len(l) != 20 || f != (api.Fault{}) || written != "" || e != api.ErrLong {
		t.Error("a text without its last line feed:", len(l), f, e)
	}
}

// P4.7

// spread is a text with more blanks, empty lines and remarks: between is put where a blank is, and at both ends of lines.
func spread(rows []api.Row, between, front, behind string) string {
	var b strings.Builder
	for _, r := range rows {
		b.WriteString(front)
		for i, w := range r.Words {
			if i > 0 {
				b.WriteString(between)
			}
			b.WriteString(row.Write(w.Text))
		}
		b.WriteString(behind)
		b.WriteString("\n")
	}
	return b.String()
}

func TestBlanksAndRemarks(t *testing.T) {
	for _, text := range sound() {
		l, _ := row.Rows(text)
		for _, c := range [][3]string{{" ", "", ""}, {"\t", "", ""}, {"  \t", "", ""}, {" ", " \t", ""}, {" ", "", "\t "}, {" ", "\n\n", ""}, {" ", "", "\n \n"}, {" ", "# a \"\n", ""}, {" ", "", " # \xff"}, {"\t\t", " #\n \t", "\t#\"\n"}} {
			more := spread(l, c[0], c[1], c[2])
			got, f := row.Rows(more)
			if f != (api.Fault{}) || !slices.EqualFunc(texts(got), texts(l), slices.Equal) {
				t.Fatalf("%q: %q %v", text, more, f)
			}
		}
	}
}

// P4.9

func TestTwoTexts(t *testing.T) {
	l := samples()
	r := rand.New(rand.NewSource(2))
	for range 20000 {
		a, b := l[r.Intn(len(l))], l[r.Intn(len(l))]
		first, f := row.Rows(a)
		second, g := row.Rows(b)
		want := slices.Clone(first)
		for _, r := range second {
			moved := api.Row{At: r.At + len(a) + 1}
			for _, w := range r.Words {
				w.At += len(a) + 1
				moved.Words = append(moved.Words, w)
			}
			want = append(want, moved)
		}
		fault := f
		if f.Err == api.OK && g.Err != api.OK {
			fault = api.Fault{Err: g.Err, At: g.At + len(a) + 1}
		}
		if fault.Err != api.OK {
			want = nil
		}
		if got, both := row.Rows(a + "\n" + b); both != fault || !equal(got, want) {
			t.Fatalf("%q and %q: %v %v", a, b, got, both)
		}
	}
}
