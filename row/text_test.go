package row_test

import (
	"fmt"
	"math/rand"
	"slices"
	"strings"
	"testing"
	"unsafe"

	"waypost/api"
	"waypost/row"
)

// written is what Write should return.
func written(s string) string {
	if bareForm.MatchString(s) {
		return s
	}
	var b strings.Builder
	for _, c := range []byte(s) {
		switch {
		case c == '"':
			b.WriteString(`\"`)
		case c == '\\':
			b.WriteString(`\\`)
		case 32 <= c && c <= 126:
			b.WriteByte(c)
		default:
			fmt.Fprintf(&b, `\x%02x`, c)
		}
	}
	return `"` + b.String() + `"`
}

// strange are strings of all kinds: short ones, those with each byte, and random ones.
func strange() []string {
	l := shortTexts("a#\"\\x4 \n\xe9", 5)
	for b := range 256 {
		one := string([]byte{byte(b)})
		l = append(l, one, "a"+one, one+"a", "a"+one+"a", " "+one, `"`+one)
	}
	r := rand.New(rand.NewSource(3))
	for range 5000 {
		b := make([]byte, r.Intn(40))
		low, high := r.Intn(256), r.Intn(256)
		for i := range b {
			b[i] = byte(min(low, high) + r.Intn(max(low, high)-min(low, high)+1))
		}
		l = append(l, string(b))
	}
	return l
}

// rowsWith are rows with words with these texts; Text should not mind their places, and whether they were quoted.
func rowsWith(l ...[]string) []api.Row {
	var rows []api.Row
	for i, words := range l {
		r := api.Row{At: 5 - 3*i}
		for j, text := range words {
			r.Words = append(r.Words, api.Word{At: 7*j - i, Text: text, Quoted: (i+j)%2 == 0})
		}
		rows = append(rows, r)
	}
	return rows
}

// textOf is what Text should return.
func textOf(rows []api.Row) (string, api.Errno) {
	text := ""
	for _, r := range rows {
		if len(r.Words) == 0 {
			return "", api.ErrForm
		}
		var words []string
		for _, w := range r.Words {
			words = append(words, written(w.Text))
		}
		line := strings.Join(words, " ")
		text += line + "\n"
		if len(line) > 1000 || len(text) > 20000 {
			return "", api.ErrLong
		}
	}
	return text, api.OK
}

// P4.2

func TestExamplesOfWrite(t *testing.T) {
	for s, want := range map[string]string{
		"/a":    `/a`,
		"a b":   `"a b"`,
		"#a":    `"#a"`,
		"a#":    `a#`,
		`a"\`:   `"a\"\\"`,
		`a\`:    `a\`,
		`\`:     `\`,
		`\ `:    `"\\ "`,
		`"`:     `"\""`,
		"":      `""`,
		"\n":    `"\x0a"`,
		"\t":    `"\x09"`,
		" ":     `" "`,
		"\x00":  `"\x00"`,
		"\x1f":  `"\x1f"`,
		"~\x7f": `"~\x7f"`,
		"\xAB":  `"\xab"`,
		"é":     `"\xc3\xa9"`,
		"!~":    `!~`,
	} {
		if got := row.Write(s); got != want || row.Bare(s) != (got == s) {
			t.Errorf("%q: %s", s, got)
		}
	}
}

func TestBareAndWrite(t *testing.T) {
	for _, s := range strange() {
		if row.Bare(s) != bareForm.MatchString(s) {
			t.Fatalf("%q: %v", s, row.Bare(s))
		}
		if got := row.Write(s); got != written(s) {
			t.Fatalf("%q: %s", s, got)
		}
	}
}

// A bare word is one that is read as it is; a string with a blank at an end is read as another word.
func TestBareIsRead(t *testing.T) {
	for _, s := range strange() {
		l, f := row.Rows(s)
		read := f == api.Fault{} && len(l) == 1 && slices.Equal(l[0].Words, []api.Word{{Text: s}})
		if row.Bare(s) != read {
			t.Fatalf("%q: %v %v", s, l, f)
		}
	}
}

func TestLongWords(t *testing.T) {
	long := strings.Repeat("a", 1000000)
	if !row.Bare(long) || row.Bare(long+" ") || row.Write(long) != long || row.Write(long+"\"") != `"`+long+`\""` {
		t.Error("long")
	}
}

func TestWrittenIsNew(t *testing.T) {
	s := strings.Repeat("ab", 100)
	if unsafe.StringData(row.Write(s)) == unsafe.StringData(s) {
		t.Error("the argument")
	}
}

// P4.3

func TestExamplesOfText(t *testing.T) {
	long := strings.Repeat("a", 999)
	full := slices.Repeat([][]string{{long}}, 20)
	for i, c := range []struct {
		rows []api.Row
		want string
		e    api.Errno
	}{
		{nil, "", api.OK},
		{[]api.Row{}, "", api.OK},
		{rowsWith([]string{"dir", "/a"}, []string{"rule", "x y", `\d+`, "", "#", "\n"}), "dir /a\nrule \"x y\" \\d+ \"\" \"#\" \"\\x0a\"\n", api.OK},
		{rowsWith([]string{}), "", api.ErrForm},
		{rowsWith([]string{"a"}, nil, []string{"b"}), "", api.ErrForm},
		{rowsWith([]string{long + "a"}), long + "a\n", api.OK},
		{rowsWith([]string{long + "aa"}), "", api.ErrLong},
		{rowsWith([]string{long[:998], "a"}), long[:998] + " a\n", api.OK},
		{rowsWith([]string{long, "a"}), "", api.ErrLong},
		{rowsWith([]string{long[:998], "aa"}), "", api.ErrLong},
		{rowsWith([]string{long[:997], ""}), long[:997] + " \"\"\n", api.OK},
		{rowsWith([]string{long[:998], ""}), "", api.ErrLong},
		{rowsWith([]string{long[:997] + " "}), `"` + long[:997] + " \"\n", api.OK},
		{rowsWith([]string{long[:998] + " "}), "", api.ErrLong},
		{rowsWith([]string{long + " "}), "", api.ErrLong},
		{rowsWith([]string{strings.Repeat("\xff", 249)}), `"` + strings.Repeat(`\xff`, 249) + "\"\n", api.OK},
		{rowsWith([]string{strings.Repeat("\xff", 250)}), "", api.ErrLong},
		{rowsWith(slices.Repeat([]string{"a"}, 500)), strings.Repeat("a ", 499) + "a\n", api.OK},
		{rowsWith(slices.Repeat([]string{"a"}, 501)), "", api.ErrLong},
		{rowsWith([]string{strings.Repeat("\xff", 10000000), "a"}), "", api.ErrLong},
		{rowsWith(slices.Repeat([]string{""}, 1000000)), "", api.ErrLong},
		{rowsWith(full...), strings.Repeat(long+"\n", 20), api.OK},
		{rowsWith(append(full, []string{"a"})...), "", api.ErrLong},
		{rowsWith(append(full[:19:19], []string{long + "a"})...), "", api.ErrLong},
		{rowsWith(slices.Repeat([][]string{{"a"}}, 10000)...), strings.Repeat("a\n", 10000), api.OK},
		{rowsWith(slices.Repeat([][]string{{"a"}}, 10001)...), "", api.ErrLong},
		// Of two errors, that of the first row counts.
		{rowsWith([]string{long + "aa"}, nil), "", api.ErrLong},
		{rowsWith(nil, []string{long + "aa"}), "", api.ErrForm},
		{rowsWith(append(full, []string{"a"}, nil)...), "", api.ErrLong},
		{rowsWith(append(full, nil, []string{"a"})...), "", api.ErrForm},
	} {
		if got, e := row.Text(c.rows); got != c.want || e != c.e {
			t.Errorf("%d: %.80q %v", i, got, e)
		}
	}
}

func TestTextOfSamples(t *testing.T) {
	for _, rows := range randomRows() {
		before := texts(rows)
		want, wantErr := textOf(rows)
		if got, e := row.Text(rows); got != want || e != wantErr {
			t.Fatalf("%s: %.80q %v", brief(rows), got, e)
		}
		if !slices.EqualFunc(texts(rows), before, slices.Equal) {
			t.Fatal("changed:", brief(rows))
		}
	}
}

// randomRows are lists of rows, some of them without words, some of them too long.
func randomRows() [][]api.Row {
	words := strange()
	r := rand.New(rand.NewSource(4))
	var l [][]api.Row
	for range 3000 {
		var rows [][]string
		for range r.Intn(8) {
			most := []int{3, 10, 100, 300}[r.Intn(4)]
			var some []string
			for range r.Intn(most) {
				some = append(some, words[r.Intn(len(words))])
			}
			rows = append(rows, some)
		}
		l = append(l, rowsWith(rows...))
	}
	for n := range 60 {
		l = append(l, rowsWith(slices.Repeat([][]string{{strings.Repeat("b c", 100+n)}}, 2*n)...))
	}
	return l
}

// P4.5

func TestRowsOfText(t *testing.T) {
	n := 0
	for _, rows := range randomRows() {
		text, e := row.Text(rows)
		if e != api.OK {
			continue
		}
		n++
		l, f := row.Rows(text)
		if f != (api.Fault{}) || !slices.EqualFunc(texts(l), texts(rows), slices.Equal) {
			t.Fatalf("%.80q: %s %v", text, brief(l), f)
		}
	}
	if n < 500 {
		t.Error("texts:", n)
	}
}

// P4.8

func TestWrittenIsRead(t *testing.T) {
	from := map[string]string{}
	for _, s := range strange() {
		word := row.Write(s)
		if other, ok := from[word]; ok && other != s {
			t.Fatalf("%q and %q: %s", s, other, word)
		}
		from[word] = s
		l, f := row.Rows(word)
		if f != (api.Fault{}) || len(l) != 1 || !slices.Equal(l[0].Words, []api.Word{{Text: s, Quoted: word != s}}) {
			t.Fatalf("%q: %s %v %v", s, word, l, f)
		}
	}
}
