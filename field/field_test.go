package field_test

import (
	"fmt"
	"math/rand"
	"reflect"
	"regexp"
	"slices"
	"strings"
	"testing"
	"unsafe"

	"waypost/api"
	"waypost/field"
)

// The forms of layer 5's Terms. They are for strings with a rune for each byte, as wide makes them.
var (
	nameForm  = regexp.MustCompile("\\A[!#$%&'*+\\-.^_`|~0-9a-zA-Z]+\\z")
	valueForm = regexp.MustCompile(`\A([!-~\x80-\xff]([ \t!-~\x80-\xff]*[!-~\x80-\xff])?)?\z`)
	lineForm  = regexp.MustCompile(`(?s)\A([^:]*):[ \t]*(|[^ \t]|[^ \t].*[^ \t])[ \t]*\z`)
)

// hosts is the list of the chapter's Examples.
var hosts = []api.Field{{Name: "Host", Value: "a"}, {Name: "X-A", Value: "1"}, {Name: "x-a", Value: "2"}}

// wide has a rune for each byte of s.
func wide(s string) string {
	var l []rune
	for _, b := range []byte(s) {
		l = append(l, rune(b))
	}
	return string(l)
}

// narrow has a byte for each rune of a wide string.
func narrow(s string) string {
	var l []byte
	for _, r := range s {
		l = append(l, byte(r))
	}
	return string(l)
}

// lower has the letters of s in lower case.
func lower(s string) string {
	l := []byte(s)
	for i, b := range l {
		if 'A' <= b && b <= 'Z' {
			l[i] = b | 0x20
		}
	}
	return string(l)
}

func isName(s string) bool { return nameForm.MatchString(wide(s)) }

// lineOf is the line of a field, whether it is valid or not.
func lineOf(f api.Field) string {
	return strings.TrimSuffix(f.Name+": "+f.Value, " ")
}

// errorOf is what is wrong with a field by itself.
func errorOf(f api.Field) api.Errno {
	if !isName(f.Name) {
		return api.ErrName
	}
	if !valueForm.MatchString(wide(f.Value)) {
		return api.ErrForm
	}
	if len(lineOf(f)) > 512 {
		return api.ErrLong
	}
	return api.OK
}

// checkOf is what Check should return.
func checkOf(l []api.Field) (api.Errno, int) {
	if len(l) > 32 {
		return api.ErrFull, 0
	}
	at := slices.IndexFunc(l, func(f api.Field) bool { return errorOf(f) != api.OK })
	if at < 0 {
		return api.OK, 0
	}
	return errorOf(l[at]), at
}

// wrong is the error of a list, and then of names.
func wrong(l []api.Field, names ...string) api.Errno {
	if e, _ := checkOf(l); e != api.OK {
		return e
	}
	for _, name := range names {
		if !isName(name) {
			return api.ErrName
		}
	}
	return api.OK
}

// valuesOf are the values of the fields with a name.
func valuesOf(l []api.Field, name string) []string {
	var values []string
	for _, f := range l {
		if lower(f.Name) == lower(name) {
			values = append(values, f.Value)
		}
	}
	return values
}

// addOf is what Add should return.
func addOf(l []api.Field, f api.Field) ([]api.Field, api.Errno) {
	e := wrong(l)
	if e == api.OK {
		e = errorOf(f)
	}
	if e == api.OK && len(l) >= 32 {
		e = api.ErrFull
	}
	if e != api.OK {
		return nil, e
	}
	return slices.Concat(l, []api.Field{f}), api.OK
}

// putOf is what Put should return.
func putOf(l []api.Field, f api.Field) ([]api.Field, api.Errno) {
	first := slices.IndexFunc(l, func(old api.Field) bool { return lower(old.Name) == lower(f.Name) })
	if first < 0 || wrong(l) != api.OK || errorOf(f) != api.OK {
		return addOf(l, f)
	}
	return slices.Concat(l[:first], []api.Field{f}, without(l[first:], f.Name)), api.OK
}

// without is a list without the fields with one of the names.
func without(l []api.Field, names ...string) []api.Field {
	return slices.DeleteFunc(slices.Clone(l), func(f api.Field) bool {
		return slices.ContainsFunc(names, func(name string) bool { return lower(name) == lower(f.Name) })
	})
}

// namesOf is what Names should return for a valid list.
func namesOf(l []api.Field) []string {
	var names []string
	for _, f := range l {
		if !slices.Contains(names, lower(f.Name)) {
			names = append(names, lower(f.Name))
		}
	}
	return names
}

// textOf is what Text should return for a valid list.
func textOf(l []api.Field) string {
	text := ""
	for _, f := range l {
		text += lineOf(f) + "\r\n"
	}
	return text
}

// readOf is what Read should return.
func readOf(line string) (api.Field, api.Errno) {
	if len(line) > 512 {
		return api.Field{}, api.ErrLong
	}
	m := lineForm.FindStringSubmatch(wide(line))
	if m == nil {
		return api.Field{}, api.ErrForm
	}
	f := api.Field{Name: narrow(m[1]), Value: narrow(m[2])}
	switch e := errorOf(f); e {
	case api.OK:
		return f, api.OK
	case api.ErrName:
		return api.Field{}, api.ErrForm
	default:
		return api.Field{}, e
	}
}

// results are the results of a call.
func results(l ...any) []any { return l }

// same compares results with what they should be; nil slices and empty ones are equal.
func same(t *testing.T, of string, argument any, got, want []any) {
	t.Helper()
	for i := range want {
		a, b := reflect.ValueOf(got[i]), reflect.ValueOf(want[i])
		if a.Kind() == reflect.Slice && a.Len() == 0 && b.Len() == 0 {
			continue
		}
		if !reflect.DeepEqual(got[i], want[i]) {
			t.Fatalf("%s of %.300q: %.300q, not %.300q", of, fmt.Sprint(argument), fmt.Sprint(got...), fmt.Sprint(want...))
		}
	}
}

// check checks what is said of a list alone.
func check(t *testing.T, l []api.Field) {
	t.Helper()
	given := slices.Clone(l)
	e, at := field.Check(l)
	wantErr, wantAt := checkOf(l)
	same(t, "Check", l, results(e, at), results(wantErr, wantAt))
	names, e := field.Names(l)
	text, f := field.Text(l)
	if wantErr != api.OK {
		same(t, "Names", l, results(names, e), results([]string{}, wantErr))
		same(t, "Text", l, results(text, f), results("", wantErr))
		return
	}
	same(t, "Names", l, results(names, e), results(namesOf(l), api.OK))
	same(t, "Text", l, results(text, f), results(textOf(l), api.OK))
	if !slices.Equal(l, given) {
		t.Fatalf("%q was changed", given)
	}
}

// checkName checks what is said of a list and a name.
func checkName(t *testing.T, l []api.Field, name string) {
	t.Helper()
	given := slices.Clone(l)
	want, wantErr := valuesOf(l, name), wrong(l, name)
	if wantErr != api.OK {
		want = nil
	}
	first := ""
	if len(want) > 0 {
		first = want[0]
	}
	about := []any{l, name}
	value, is, e := field.Get(l, name)
	same(t, "Get", about, results(value, is, e), results(first, len(want) > 0, wantErr))
	all, e := field.All(l, name)
	same(t, "All", about, results(all, e), results(want, wantErr))
	value, is, e = field.Combine(l, name)
	same(t, "Combine", about, results(value, is, e), results(strings.Join(want, ", "), len(want) > 0, wantErr))
	if !slices.Equal(l, given) {
		t.Fatalf("%q was changed", given)
	}
}

// checkDrop checks what is said of a list and names.
func checkDrop(t *testing.T, l []api.Field, names ...string) {
	t.Helper()
	given, givenNames := slices.Clone(l), slices.Clone(names)
	want, n, wantErr := without(l, names...), 0, wrong(l, names...)
	n = len(l) - len(want)
	if wantErr != api.OK {
		want, n = nil, 0
	}
	got, dropped, e := field.Drop(l, names...)
	same(t, "Drop", []any{l, names}, results(got, dropped, e), results(want, n, wantErr))
	if !slices.Equal(l, given) || !slices.Equal(names, givenNames) {
		t.Fatalf("%q %q was changed", given, givenNames)
	}
}

// checkField checks what is said of a list and a field.
func checkField(t *testing.T, l []api.Field, f api.Field) {
	t.Helper()
	// There is room behind the list, into which nothing may be written.
	l = append(slices.Clone(l), api.Field{Name: "behind"})[:len(l)]
	given := slices.Clone(l)
	want, wantErr := addOf(l, f)
	got, e := field.Add(l, f)
	same(t, "Add", []any{l, f}, results(got, e), results(want, wantErr))
	want, wantErr = putOf(l, f)
	got, e = field.Put(l, f)
	same(t, "Put", []any{l, f}, results(got, e), results(want, wantErr))
	if !slices.Equal(l, given) || l[:len(l)+1][len(l)].Name != "behind" {
		t.Fatalf("%q was changed", given)
	}
}

// checkLine checks Line and Read of what belongs to a field.
func checkLine(t *testing.T, f api.Field) {
	t.Helper()
	want, wantErr := lineOf(f), errorOf(f)
	if wantErr != api.OK {
		want = ""
	}
	s, e := field.Line(f)
	same(t, "Line", f, results(s, e), results(want, wantErr))
	checkRead(t, f.Name+":"+f.Value)
	checkRead(t, f.Name+": "+f.Value)
}

// checkRead checks Read of a line.
func checkRead(t *testing.T, line string) {
	t.Helper()
	want, wantErr := readOf(line)
	f, e := field.Read(line)
	same(t, "Read", line, results(f, e), results(want, wantErr))
}

// The names and values of samples: valid ones first, then others.
var (
	validNames  = []string{"a", "A", "b", "Ab", "aB", "AB", "Host", "host", "X-A", "x-a", "!#$%&'*+-.^_`|~09azAZ", "~", "^", strings.Repeat("n", 300), strings.Repeat("N", 300)}
	otherNames  = []string{"", " ", "a b", "a:", " a", "a ", "[", "{", "a\xff", "\u212a", "a\r\n", "a,b"}
	validValues = []string{"", "", "1", "2", "a b", "x, y", ",", "\xe9", "\u212a", "a:b", ":", "\"q\"", "a\t b", strings.Repeat("v", 209), strings.Repeat("v", 210), strings.Repeat("v", 211)}
	otherValues = []string{" ", " x", "x ", "\t", "x\r", "\n", "x\x00y", "x\x7f", "a\r\nb: c"}
)

// pick is one of the valid strings or, once in a while, one of the others.
func pick(valid, others []string, often int, r *rand.Rand) string {
	if r.Intn(often) == 0 {
		return others[r.Intn(len(others))]
	}
	return valid[r.Intn(len(valid))]
}

// anyField is a random field, mostly a valid one.
func anyField(often int, r *rand.Rand) api.Field {
	f := api.Field{Name: pick(validNames, otherNames, often, r), Value: pick(validValues, otherValues, often, r)}
	if len(lineOf(f)) > 512 && r.Intn(often) > 0 {
		f.Value = "short"
	}
	return f
}

// samples are lists of fields, most of them valid.
func samples(seed int64) [][]api.Field {
	r := rand.New(rand.NewSource(seed))
	var l [][]api.Field
	for range 3000 {
		n := r.Intn(8)
		if r.Intn(10) == 0 {
			n = 29 + r.Intn(6)
		}
		var list []api.Field
		for range n {
			list = append(list, anyField(60, r))
		}
		l = append(l, list)
	}
	return l
}

// valid are the samples that are valid.
func valid(seed int64) [][]api.Field {
	return slices.DeleteFunc(samples(seed), func(l []api.Field) bool {
		e, _ := checkOf(l)
		return e != api.OK
	})
}

// shortTexts are all strings of at most most bytes of an alphabet.
func shortTexts(alphabet string, most int) []string {
	l := []string{""}
	for from := 0; from < len(l) && len(l[from]) < most; from++ {
		for i := range len(alphabet) {
			l = append(l, l[from]+alphabet[i:i+1])
		}
	}
	return l
}

// mixed is s with letters of random case.
func mixed(s string, r *rand.Rand) string {
	l := []byte(lower(s))
	for i, b := range l {
		if 'a' <= b && b <= 'z' && r.Intn(2) == 0 {
			l[i] = b &^ 0x20
		}
	}
	return string(l)
}

// fields are n fields with different names.
func fields(n int) []api.Field {
	var l []api.Field
	for i := range n {
		l = append(l, api.Field{Name: fmt.Sprint("n", i), Value: fmt.Sprint(i)})
	}
	return l
}

// isNew returns whether a result has memory of its own.
func isNew(result, argument string) bool {
	from := uintptr(unsafe.Pointer(unsafe.StringData(argument)))
	at := uintptr(unsafe.Pointer(unsafe.StringData(result)))
	return result == "" || at < from || at >= from+uintptr(len(argument))
}

// P6.1 to P6.4

func TestSamples(t *testing.T) {
	r := rand.New(rand.NewSource(2))
	for _, l := range samples(1) {
		check(t, l)
		checkName(t, l, pick(validNames, otherNames, 10, r))
		var names []string
		for range r.Intn(4) {
			names = append(names, pick(validNames, otherNames, 20, r))
		}
		checkDrop(t, l, names...)
		checkField(t, l, anyField(10, r))
		checkLine(t, anyField(5, r))
	}
}

func TestEveryByte(t *testing.T) {
	for b := range 256 {
		one := string([]byte{byte(b)})
		for _, text := range []string{one, "a" + one, one + "a", "a" + one + "a"} {
			for _, f := range []api.Field{{Name: text, Value: "1"}, {Name: "a", Value: text}, {Name: text, Value: text}} {
				check(t, []api.Field{f})
				check(t, []api.Field{{Name: "a"}, f})
				checkName(t, []api.Field{f, {Name: "a", Value: "2"}}, text)
				checkField(t, hosts, f)
				checkField(t, []api.Field{f}, api.Field{Name: "a", Value: "2"})
				checkLine(t, f)
			}
			checkDrop(t, hosts, text)
			checkDrop(t, hosts, "x-a", text)
			checkRead(t, text)
			checkRead(t, "a:b"+text)
			checkRead(t, text+":b")
		}
	}
}

func TestAllShortLists(t *testing.T) {
	var some []api.Field
	for _, name := range []string{"a", "A", "b", ""} {
		for _, value := range []string{"", "1", " "} {
			some = append(some, api.Field{Name: name, Value: value})
		}
	}
	lists := [][]api.Field{nil}
	for from := 0; len(lists[from]) < 3; from++ {
		for _, f := range some {
			lists = append(lists, slices.Concat(lists[from], []api.Field{f}))
		}
	}
	for _, l := range lists {
		check(t, l)
		for _, name := range []string{"a", "B", "c", ""} {
			checkName(t, l, name)
			checkDrop(t, l, name)
			checkDrop(t, l, "A", name)
			checkField(t, l, api.Field{Name: name, Value: "3"})
		}
		checkDrop(t, l)
	}
}

// P6.1

func TestCheck(t *testing.T) {
	long := strings.Repeat("x", 510)
	for i, c := range []struct {
		l  []api.Field
		e  api.Errno
		at int
	}{
		{nil, api.OK, 0},
		{[]api.Field{}, api.OK, 0},
		{hosts, api.OK, 0},
		{[]api.Field{{Name: "A B", Value: "1"}}, api.ErrName, 0},
		{[]api.Field{{Name: "A", Value: " x"}}, api.ErrForm, 0},
		{fields(32), api.OK, 0},
		{fields(33), api.ErrFull, 0},
		{slices.Repeat(hosts[:1], 32), api.OK, 0},
		{slices.Repeat(hosts[:1], 33), api.ErrFull, 0},
		{append(fields(32), api.Field{}), api.ErrFull, 0},
		{make([]api.Field, 33), api.ErrFull, 0},
		{make([]api.Field, 100000), api.ErrFull, 0},
		{append(fields(31), api.Field{}), api.ErrName, 31},
		{[]api.Field{hosts[0], {Name: "A B"}, {Name: ""}}, api.ErrName, 1},
		{[]api.Field{hosts[0], hosts[1], {Name: "A", Value: "\n"}, {}}, api.ErrForm, 2},
		{[]api.Field{{Name: "A", Value: long}, {}}, api.ErrLong, 0},
		{[]api.Field{hosts[0], {Name: "A", Value: long}, {}}, api.ErrLong, 1},
		{[]api.Field{{}}, api.ErrName, 0},
		{[]api.Field{{Value: " "}}, api.ErrName, 0},
		{[]api.Field{{Value: " " + long}}, api.ErrName, 0},
		{[]api.Field{{Name: "A", Value: " " + long}}, api.ErrForm, 0},
		{[]api.Field{{Name: long + long}}, api.ErrLong, 0},
		{[]api.Field{{Name: "A", Value: long}}, api.ErrLong, 0},
		{[]api.Field{{Name: "A", Value: long[1:]}}, api.OK, 0},
		{[]api.Field{{Name: "AB", Value: long[1:]}}, api.ErrLong, 0},
		{[]api.Field{{Name: "AB", Value: long[2:]}}, api.OK, 0},
		{[]api.Field{{Name: long, Value: ""}}, api.OK, 0},
		{[]api.Field{{Name: long + "x", Value: ""}}, api.OK, 0},
		{[]api.Field{{Name: long + "xx", Value: ""}}, api.ErrLong, 0},
		{[]api.Field{{Name: long, Value: "1"}}, api.ErrLong, 0},
		{[]api.Field{{Name: long[1:], Value: "1"}}, api.OK, 0},
		{[]api.Field{{Name: "a", Value: strings.Repeat("é", 254)}}, api.OK, 0},
		{[]api.Field{{Name: "a", Value: strings.Repeat("é", 255)}}, api.ErrLong, 0},
	} {
		if e, at := field.Check(c.l); e != c.e || at != c.at {
			t.Error(i, e, at)
		}
		check(t, c.l)
	}
}

// The error of the list comes before those of names and fields, and theirs before that of a full list.
func TestOrderOfErrors(t *testing.T) {
	for i, c := range []struct {
		l []api.Field
		e api.Errno
	}{
		{slices.Repeat(hosts[:1], 33), api.ErrFull},
		{[]api.Field{{Name: "a", Value: " "}}, api.ErrForm},
		{[]api.Field{{Name: "a", Value: strings.Repeat("x", 510)}}, api.ErrLong},
		{[]api.Field{{Name: "a b"}}, api.ErrName},
	} {
		for _, name := range []string{"a", "", "a b"} {
			_, is, e := field.Get(c.l, name)
			_, f := field.All(c.l, name)
			_, was, g := field.Combine(c.l, name)
			_, n, h := field.Drop(c.l, name)
			if is || was || n != 0 || e != c.e || f != c.e || g != c.e || h != c.e {
				t.Error(i, name, e, f, g, h)
			}
			for _, value := range []string{"", " ", strings.Repeat("x", 600)} {
				_, e := field.Add(c.l, api.Field{Name: name, Value: value})
				_, f := field.Put(c.l, api.Field{Name: name, Value: value})
				if e != c.e || f != c.e {
					t.Error(i, name, value, e, f)
				}
			}
		}
		_, n, e := field.Drop(c.l)
		_, f := field.Names(c.l)
		_, g := field.Text(c.l)
		if n != 0 || e != c.e || f != c.e || g != c.e {
			t.Error(i, e, f, g)
		}
	}
	for value, want := range map[string]api.Errno{"": api.ErrFull, " ": api.ErrForm, strings.Repeat("x", 510): api.ErrLong} {
		_, e := field.Add(fields(32), api.Field{Name: "z", Value: value})
		_, f := field.Put(fields(32), api.Field{Name: "z", Value: value})
		if e != want || f != want {
			t.Errorf("%.5q: %v %v", value, e, f)
		}
	}
}

// P6.2

func TestGet(t *testing.T) {
	for name, want := range map[string][]string{"host": {"a"}, "HOST": {"a"}, "X-a": {"1", "2"}, "x-A": {"1", "2"}, "y": nil, "X": nil, "X-AA": nil, "X_A": nil} {
		value, is, e := field.Get(hosts, name)
		if is != (want != nil) || is && value != want[0] || !is && value != "" || e != api.OK {
			t.Error(name, value, is, e)
		}
		if all, e := field.All(hosts, name); !slices.Equal(all, want) || e != api.OK {
			t.Error(name, all, e)
		}
		if value, is, e := field.Combine(hosts, name); value != strings.Join(want, ", ") || is != (want != nil) || e != api.OK {
			t.Error(name, value, is, e)
		}
		checkName(t, hosts, name)
		checkName(t, nil, name)
	}
	for _, name := range []string{"", "a b", "host:", " host", "\xe9"} {
		if _, _, e := field.Get(hosts, name); e != api.ErrName {
			t.Error(name, e)
		}
		checkName(t, hosts, name)
	}
}

// A field with an empty value is there.
func TestEmptyValues(t *testing.T) {
	l := []api.Field{{Name: "a"}, {Name: "B", Value: "1"}, {Name: "A"}}
	value, is, e := field.Get(l, "A")
	all, f := field.All(l, "A")
	both, was, g := field.Combine(l, "A")
	if value != "" || !is || e != api.OK || !slices.Equal(all, []string{"", ""}) || f != api.OK || both != ", " || !was || g != api.OK {
		t.Errorf("%q %v %v %q %v %q %v %v", value, is, e, all, f, both, was, g)
	}
	if both, was, _ := field.Combine(l[:1], "a"); both != "" || !was {
		t.Errorf("%q %v", both, was)
	}
}

// Bytes beyond the letters have no case, and no other pair of bytes is equal.
func TestOnlyLettersHaveCases(t *testing.T) {
	l := []api.Field{{Name: "^", Value: "1"}, {Name: "~", Value: "2"}, {Name: "`", Value: "3"}, {Name: "0", Value: "4"}, {Name: "Z", Value: "5"}}
	for name, want := range map[string]string{"^": "1", "~": "2", "`": "3", "0": "4", "z": "5"} {
		if all, e := field.All(l, name); !slices.Equal(all, []string{want}) || e != api.OK {
			t.Error(name, all, e)
		}
		if left, n, e := field.Drop(l, name); len(left) != 4 || n != 1 || e != api.OK {
			t.Error(name, left, n, e)
		}
	}
}

// P6.3

func TestLine(t *testing.T) {
	for f, want := range map[api.Field]string{
		{Name: "Y"}:                         "Y:",
		{Name: "Y", Value: "a  b"}:          "Y: a  b",
		{Name: "y", Value: ":"}:             "y: :",
		{Name: "Host", Value: "a.test"}:     "Host: a.test",
		{Name: "a", Value: "\xff\t\x80"}:    "a: \xff\t\x80",
		{Name: strings.Repeat("a", 511)}:    strings.Repeat("a", 511) + ":",
		{Name: "-", Value: "b: c, \"d e\""}: "-: b: c, \"d e\"",
	} {
		if s, e := field.Line(f); s != want || e != api.OK {
			t.Errorf("%q: %q %v", f, s, e)
		}
		checkLine(t, f)
	}
	for f, want := range map[api.Field]api.Errno{
		{}:                                                 api.ErrName,
		{Name: "a b", Value: " "}:                          api.ErrName,
		{Name: "a:", Value: "b"}:                           api.ErrName,
		{Name: "a", Value: " b"}:                           api.ErrForm,
		{Name: "a", Value: "b\r\nc: d"}:                    api.ErrForm,
		{Name: "a", Value: "b\x00"}:                        api.ErrForm,
		{Name: strings.Repeat("a", 512)}:                   api.ErrLong,
		{Name: strings.Repeat("a", 1000000)}:               api.ErrLong,
		{Name: "a", Value: strings.Repeat("b", 1000000)}:   api.ErrLong,
		{Name: "a", Value: strings.Repeat(" ", 1000000)}:   api.ErrForm,
		{Name: strings.Repeat(" ", 1000000), Value: "b"}:   api.ErrName,
		{Name: "ab", Value: strings.Repeat("b", 509)}:      api.ErrLong,
		{Name: strings.Repeat("a", 509), Value: "bc"}:      api.ErrLong,
		{Name: strings.Repeat("a", 512), Value: "\x7f"}:    api.ErrForm,
		{Name: strings.Repeat("a", 512) + "\n", Value: ""}: api.ErrName,
	} {
		if s, e := field.Line(f); s != "" || e != want {
			t.Errorf("%.20q: %.20q %v, not %v", f, s, e, want)
		}
		checkLine(t, f)
	}
}

func TestAdd(t *testing.T) {
	for i, c := range []struct {
		l    []api.Field
		f    api.Field
		want []api.Field
		e    api.Errno
	}{
		{nil, api.Field{Name: "a"}, []api.Field{{Name: "a"}}, api.OK},
		{hosts, api.Field{Name: "X-A", Value: "3"}, slices.Concat(hosts, []api.Field{{Name: "X-A", Value: "3"}}), api.OK},
		{hosts, hosts[0], slices.Concat(hosts, hosts[:1]), api.OK},
		{fields(31), api.Field{Name: "n1"}, append(fields(31), api.Field{Name: "n1"}), api.OK},
		{fields(32), api.Field{Name: "n1"}, nil, api.ErrFull},
		{fields(33), api.Field{}, nil, api.ErrFull},
		{hosts, api.Field{Name: "a b"}, nil, api.ErrName},
		{hosts, api.Field{Name: "a", Value: "b "}, nil, api.ErrForm},
		{hosts, api.Field{Name: "a", Value: strings.Repeat("b", 510)}, nil, api.ErrLong},
	} {
		if l, e := field.Add(c.l, c.f); !slices.Equal(l, c.want) || e != c.e {
			t.Error(i, l, e)
		}
		checkField(t, c.l, c.f)
	}
}

func TestPut(t *testing.T) {
	for i, c := range []struct {
		l    []api.Field
		f    api.Field
		want []api.Field
		e    api.Errno
	}{
		{nil, api.Field{Name: "a"}, []api.Field{{Name: "a"}}, api.OK},
		{hosts, api.Field{Name: "X-a", Value: "3"}, []api.Field{hosts[0], {Name: "X-a", Value: "3"}}, api.OK},
		{hosts, api.Field{Name: "HOST"}, []api.Field{{Name: "HOST"}, hosts[1], hosts[2]}, api.OK},
		{hosts, api.Field{Name: "y", Value: "3"}, slices.Concat(hosts, []api.Field{{Name: "y", Value: "3"}}), api.OK},
		{slices.Concat(hosts, hosts), api.Field{Name: "x-a", Value: "3"}, []api.Field{hosts[0], {Name: "x-a", Value: "3"}, hosts[0]}, api.OK},
		{fields(32), api.Field{Name: "N7"}, slices.Concat(fields(7), []api.Field{{Name: "N7"}}, fields(32)[8:]), api.OK},
		{slices.Repeat(hosts[:1], 32), api.Field{Name: "hOST", Value: "b"}, []api.Field{{Name: "hOST", Value: "b"}}, api.OK},
		{fields(31), api.Field{Name: "m"}, append(fields(31), api.Field{Name: "m"}), api.OK},
		{fields(32), api.Field{Name: "m"}, nil, api.ErrFull},
		{fields(32), api.Field{Name: "n1", Value: " "}, nil, api.ErrForm},
		{fields(33), api.Field{Name: "n1"}, nil, api.ErrFull},
		{hosts, api.Field{}, nil, api.ErrName},
		{hosts, api.Field{Name: "host", Value: "\x00"}, nil, api.ErrForm},
		{hosts, api.Field{Name: "host", Value: strings.Repeat("b", 507)}, nil, api.ErrLong},
	} {
		if l, e := field.Put(c.l, c.f); !slices.Equal(l, c.want) || e != c.e {
			t.Error(i, l, e)
		}
		checkField(t, c.l, c.f)
	}
}

func TestDrop(t *testing.T) {
	for i, c := range []struct {
		names []string
		want  []api.Field
		e     api.Errno
	}{
		{nil, hosts, api.OK},
		{[]string{"x-a", "y"}, hosts[:1], api.OK},
		{[]string{"X-A", "x-a"}, hosts[:1], api.OK},
		{[]string{"y"}, hosts, api.OK},
		{[]string{"HOST"}, hosts[1:], api.OK},
		{[]string{"x-a", "host"}, nil, api.OK},
		{[]string{""}, nil, api.ErrName},
		{[]string{"host", "a b"}, nil, api.ErrName},
		{[]string{"a:", "host"}, nil, api.ErrName},
		{slices.Repeat([]string{"host"}, 1000), hosts[1:], api.OK},
	} {
		dropped := 0
		if c.e == api.OK {
			dropped = len(hosts) - len(c.want)
		}
		if l, n, e := field.Drop(hosts, c.names...); !slices.Equal(l, c.want) || n != dropped || e != c.e {
			t.Error(i, l, n, e)
		}
		checkDrop(t, hosts, c.names...)
		checkDrop(t, nil, c.names...)
	}
}

// P6.4

func TestNamesAndText(t *testing.T) {
	names, e := field.Names(hosts)
	text, f := field.Text(hosts)
	if !slices.Equal(names, []string{"host", "x-a"}) || e != api.OK || text != "Host: a\r\nX-A: 1\r\nx-a: 2\r\n" || f != api.OK {
		t.Errorf("%q %v %q %v", names, e, text, f)
	}
	l := []api.Field{{Name: "z"}, {Name: "B", Value: "1"}, {Name: "a", Value: "2"}, {Name: "b"}, {Name: "Z", Value: "3"}}
	names, e = field.Names(l)
	text, f = field.Text(l)
	if !slices.Equal(names, []string{"z", "b", "a"}) || e != api.OK || text != "z:\r\nB: 1\r\na: 2\r\nb:\r\nZ: 3\r\n" || f != api.OK {
		t.Errorf("%q %v %q %v", names, e, text, f)
	}
	names, e = field.Names(nil)
	text, f = field.Text(nil)
	if len(names) != 0 || e != api.OK || text != "" || f != api.OK {
		t.Errorf("%q %v %q %v", names, e, text, f)
	}
}

func TestRead(t *testing.T) {
	for line, want := range map[string]api.Field{
		"Y:":                                  {Name: "Y"},
		"Y:  a b ":                            {Name: "Y", Value: "a b"},
		"Y:\ta\t":                             {Name: "Y", Value: "a"},
		"Y: \t ":                              {Name: "Y"},
		"Y:a":                                 {Name: "Y", Value: "a"},
		"Host: a.b:80":                        {Name: "Host", Value: "a.b:80"},
		"a::":                                 {Name: "a", Value: ":"},
		"a: \xff":                             {Name: "a", Value: "\xff"},
		"Y:" + strings.Repeat("x", 509):       {Name: "Y", Value: strings.Repeat("x", 509)},
		"Y:" + strings.Repeat(" ", 510):       {Name: "Y"},
		"Y:" + strings.Repeat(" ", 509) + "x": {Name: "Y", Value: "x"},
		"Y:" + strings.Repeat("x", 509) + " ": {Name: "Y", Value: strings.Repeat("x", 509)},
		strings.Repeat("n", 511) + ":":        {Name: strings.Repeat("n", 511)},
		strings.Repeat("n", 510) + ": ":       {Name: strings.Repeat("n", 510)},
		strings.Repeat("n", 509) + ":x":       {Name: strings.Repeat("n", 509), Value: "x"},
		strings.Repeat("n", 9) + ":\t" + strings.Repeat("x", 501): {Name: strings.Repeat("n", 9), Value: strings.Repeat("x", 501)},
	} {
		if f, e := field.Read(line); f != want || e != api.OK {
			t.Errorf("%.20q: %q %v", line, f, e)
		}
		checkRead(t, line)
	}
}

func TestWrongLines(t *testing.T) {
	for line, want := range map[string]api.Errno{
		"":                                       api.ErrForm,
		"Y":                                      api.ErrForm,
		":":                                      api.ErrForm,
		":a":                                     api.ErrForm,
		"Y : a":                                  api.ErrForm,
		" Y: a":                                  api.ErrForm,
		"\tY: a":                                 api.ErrForm,
		"a b: c":                                 api.ErrForm,
		"Y: a\rb":                                api.ErrForm,
		"Y: a\r\n":                               api.ErrForm,
		"Y: a\x00":                               api.ErrForm,
		"\xe9: a":                                api.ErrForm,
		"Y:" + strings.Repeat("x", 510):          api.ErrLong,
		"Y:" + strings.Repeat(" ", 511):          api.ErrLong,
		"Y:" + strings.Repeat("x", 511):          api.ErrLong,
		"Y: " + strings.Repeat("x", 510):         api.ErrLong,
		strings.Repeat("n", 510) + ":x":          api.ErrLong,
		strings.Repeat("n", 512) + ":":           api.ErrLong,
		strings.Repeat("n", 512):                 api.ErrForm,
		strings.Repeat("n", 513):                 api.ErrLong,
		strings.Repeat(" ", 512):                 api.ErrForm,
		strings.Repeat(" ", 513):                 api.ErrLong,
		strings.Repeat("\x00", 1000000):          api.ErrLong,
		"Y:" + strings.Repeat("x", 509) + "\n":   api.ErrForm,
		"Y:" + strings.Repeat("x", 509) + "\r\n": api.ErrLong,
	} {
		if f, e := field.Read(line); f != (api.Field{}) || e != want {
			t.Errorf("%.20q: %q %v", line, f, e)
		}
		checkRead(t, line)
	}
}

func TestShortLines(t *testing.T) {
	for _, line := range shortTexts("aZ: \t,\n\xff", 6) {
		checkRead(t, line)
	}
}

// Results have memory of their own: neither their strings nor their slices belong to an argument.
func TestResultsAreNew(t *testing.T) {
	name, value := strings.Repeat("a", 20), strings.Repeat("b", 20)
	l := []api.Field{{Name: name, Value: value}}
	only, _, _ := field.Get(l, name)
	all, _ := field.All(l, name)
	both, _, _ := field.Combine(l, name)
	names, _ := field.Names(l)
	parts := []string{only, all[0], both, names[0]}
	added, _ := field.Add(l, api.Field{Name: "z", Value: value})
	put, _ := field.Put(l, l[0])
	kept, _, _ := field.Drop(l, "z")
	read, _ := field.Read(name + ":" + value)
	for _, f := range slices.Concat(added, put, kept, []api.Field{read}) {
		parts = append(parts, f.Name, f.Value)
	}
	for i, part := range parts {
		if part == "" || !isNew(part, name) || !isNew(part, value) {
			t.Error(i, part)
		}
	}
	for _, list := range [][]api.Field{added, put, kept} {
		list[0].Value = "changed"
	}
	if l[0].Value != value {
		t.Error("the argument was changed")
	}
}

// P6.5

func TestReadOfLine(t *testing.T) {
	r := rand.New(rand.NewSource(3))
	for range 20000 {
		f := anyField(50, r)
		line, e := field.Line(f)
		if e != api.OK {
			continue
		}
		if got, e := field.Read(line); got != f || e != api.OK {
			t.Fatalf("%q: %q %v", line, got, e)
		}
	}
	for n := 1; n < 512; n++ {
		f := api.Field{Name: strings.Repeat("n", n), Value: strings.Repeat("v", max(510-n, 0))}
		line, e := field.Line(f)
		if got, g := field.Read(line); got != f || e != api.OK || g != api.OK {
			t.Fatal(n, e, g)
		}
	}
}

// P6.6

func TestBehindPut(t *testing.T) {
	r := rand.New(rand.NewSource(4))
	for _, l := range valid(4) {
		f := anyField(1000, r)
		once, e := field.Put(l, f)
		if e != api.OK {
			continue
		}
		values, _ := field.All(once, mixed(f.Name, r))
		if !slices.Equal(values, []string{f.Value}) || !slices.Contains(once, f) {
			t.Fatalf("%q: %q", f, once)
		}
		others, _, _ := field.Drop(once, f.Name)
		before, _, _ := field.Drop(l, f.Name)
		if !slices.Equal(others, before) {
			t.Fatalf("%q: %q, not %q", f, others, before)
		}
		if twice, e := field.Put(once, f); !slices.Equal(twice, once) || e != api.OK {
			t.Fatalf("%q: %q, not %q", f, twice, once)
		}
	}
}

// P6.7

func TestCombineOfAll(t *testing.T) {
	r := rand.New(rand.NewSource(5))
	for _, l := range valid(5) {
		name := mixed(validNames[r.Intn(len(validNames))], r)
		all, _ := field.All(l, name)
		both, is, e := field.Combine(l, name)
		if both != strings.Join(all, ", ") || is != (len(all) > 0) || e != api.OK {
			t.Fatalf("%q: %q %q", l, all, both)
		}
	}
}

func TestDropOneByOne(t *testing.T) {
	r := rand.New(rand.NewSource(6))
	for _, l := range valid(6) {
		var names []string
		for range r.Intn(4) {
			names = append(names, mixed(validNames[r.Intn(len(validNames))], r))
		}
		left, n, e := field.Drop(l, names...)
		step, sum := l, 0
		for _, name := range names {
			one, dropped, _ := field.Drop(step, name)
			step, sum = one, sum+dropped
			if _, is, _ := field.Get(left, name); is {
				t.Fatalf("%q: %q is there", left, name)
			}
		}
		if !slices.Equal(left, step) || n != sum || n != len(l)-len(left) || e != api.OK {
			t.Fatalf("%q: %q %d, not %q %d", names, left, n, step, sum)
		}
	}
}

// P6.8

func TestNamesOfLowerCase(t *testing.T) {
	for _, l := range valid(7) {
		small := slices.Clone(l)
		for i := range small {
			small[i].Name = lower(small[i].Name)
		}
		names, e := field.Names(l)
		if again, f := field.Names(small); !slices.Equal(names, again) || e != api.OK || f != api.OK {
			t.Fatalf("%q, not %q", names, again)
		}
		for _, name := range names {
			if _, is, e := field.Get(l, name); !is || e != api.OK {
				t.Fatalf("%q: no %q", l, name)
			}
		}
	}
}
