package dots_test

import (
	"math/rand"
	"slices"
	"strings"
	"testing"
	"unsafe"

	"waypost/api"
	"waypost/dots"
)

// The models follow the chapter's Terms; paths are texts in them, never lists.

// isNormal is what Normal should return: dot segments are found with the slashes around them.
func isNormal(p string) bool {
	ended := p + "/"
	return len(p) <= 128 && strings.HasPrefix(p, "/") && !strings.Contains(p, "//") && !strings.Contains(ended, "/./") && !strings.Contains(ended, "/../")
}

// isDirectory is whether p is a directory.
func isDirectory(p string) bool {
	return isNormal(p) && (p == "/" || p[len(p)-1] != '/')
}

// cleanOf is what Clean should return: it rewrites the text until there is nothing left to rewrite.
func cleanOf(p string) (string, api.Errno) {
	if !strings.HasPrefix(p, "/") {
		return "", api.ErrForm
	}
	open := strings.HasSuffix(p, "/") || strings.HasSuffix(p, "/.") || strings.HasSuffix(p, "/..")
	p += "/"
	for strings.Contains(p, "//") || strings.Contains(p, "/./") {
		p = strings.ReplaceAll(strings.ReplaceAll(p, "//", "/"), "/./", "/")
	}
	for {
		before, behind, is := strings.Cut(p, "/../")
		if !is {
			break
		}
		if before == "" {
			return "", api.ErrDots
		}
		p = before[:strings.LastIndex(before, "/")] + "/" + behind
	}
	if !open && p != "/" {
		p = p[:len(p)-1]
	}
	return p, api.OK
}

// segmentsOf is what Segments should return.
func segmentsOf(p string) ([]string, api.Errno) {
	if !isNormal(p) {
		return nil, api.ErrForm
	}
	return strings.FieldsFunc(p, func(r rune) bool { return r == '/' }), api.OK
}

// isBelow is whether a path is under a directory.
func isBelow(p, dir string) bool {
	return dir == "/" || p == dir || strings.HasPrefix(p, dir+"/")
}

// underOf is what Under should return.
func underOf(p, dir string) (bool, api.Errno) {
	if !isNormal(p) || !isDirectory(dir) {
		return false, api.ErrForm
	}
	return isBelow(p, dir), api.OK
}

// shut is a path without its last slash, but / itself.
func shut(p string) string {
	if p == "/" {
		return p
	}
	return strings.TrimSuffix(p, "/")
}

// parentOf is what Parent should return.
func parentOf(p string) (string, api.Errno) {
	if !isNormal(p) {
		return "", api.ErrForm
	}
	if p == "/" {
		return "", api.ErrMissing
	}
	p = shut(p)
	return shut(p[:strings.LastIndex(p, "/")+1]), api.OK
}

// isSegment is whether s may be a segment.
func isSegment(s string) bool {
	return s != "" && s != "." && s != ".." && strings.IndexByte(s, '/') < 0
}

// ofLength is the path p, or ErrLong.
func ofLength(p string) (string, api.Errno) {
	if len(p) > 128 {
		return "", api.ErrLong
	}
	return p, api.OK
}

// joinOf is what Join should return.
func joinOf(dir, name string) (string, api.Errno) {
	if !isDirectory(dir) || !isSegment(name) {
		return "", api.ErrForm
	}
	if dir == "/" {
		return ofLength("/" + name)
	}
	return ofLength(dir + "/" + name)
}

// makeOf is what Make should return.
func makeOf(segments []string, open bool) (string, api.Errno) {
	for _, s := range segments {
		if !isSegment(s) {
			return "", api.ErrForm
		}
	}
	p := "/" + strings.Join(segments, "/")
	if open && p != "/" {
		p += "/"
	}
	return ofLength(p)
}

// commonOf is what Common should return: it asks all directories over a, the deepest one first.
func commonOf(a, b string) (string, api.Errno) {
	if !isNormal(a) || !isNormal(b) {
		return "", api.ErrForm
	}
	for at := len(a); at > 0; at-- {
		if dir := a[:at]; isDirectory(dir) && isBelow(a, dir) && isBelow(b, dir) {
			return dir, api.OK
		}
	}
	panic(a)
}

// check checks all that is said of one path against the models.
func check(t *testing.T, p string) {
	t.Helper()
	if dots.Normal(p) != isNormal(p) {
		t.Fatalf("%.80q: normal %v", p, dots.Normal(p))
	}
	want, wantErr := cleanOf(p)
	if s, e := dots.Clean(p); s != want || e != wantErr {
		t.Fatalf("%.80q: clean %.80q %v, not %.80q %v", p, s, e, want, wantErr)
	}
	list, wantErr := segmentsOf(p)
	if l, e := dots.Segments(p); !slices.Equal(l, list) || e != wantErr {
		t.Fatalf("%.80q: segments %.20q %v, not %.20q %v", p, l, e, list, wantErr)
	}
	want, wantErr = parentOf(p)
	if s, e := dots.Parent(p); s != want || e != wantErr {
		t.Fatalf("%.80q: parent %.80q %v, not %.80q %v", p, s, e, want, wantErr)
	}
}

// checkTwo checks all that is said of two paths against the models.
func checkTwo(t *testing.T, p, q string) {
	t.Helper()
	is, wantErr := underOf(p, q)
	if got, e := dots.Under(p, q); got != is || e != wantErr {
		t.Fatalf("%.80q under %.80q: %v %v, not %v %v", p, q, got, e, is, wantErr)
	}
	want, wantErr := commonOf(p, q)
	if s, e := dots.Common(p, q); s != want || e != wantErr {
		t.Fatalf("%.80q and %.80q: common %.80q %v, not %.80q %v", p, q, s, e, want, wantErr)
	}
}

// checkJoin checks Join against the model.
func checkJoin(t *testing.T, dir, name string) {
	t.Helper()
	want, wantErr := joinOf(dir, name)
	if s, e := dots.Join(dir, name); s != want || e != wantErr {
		t.Fatalf("%.80q joined with %.80q: %.80q %v, not %.80q %v", dir, name, s, e, want, wantErr)
	}
}

// checkMake checks Make against the model.
func checkMake(t *testing.T, segments []string) {
	t.Helper()
	for _, open := range []bool{false, true} {
		want, wantErr := makeOf(segments, open)
		if s, e := dots.Make(segments, open); s != want || e != wantErr {
			t.Fatalf("%.20q open %v: %.80q %v, not %.80q %v", segments, open, s, e, want, wantErr)
		}
	}
}

// shortTexts are all strings of at most most bytes of an alphabet.
func shortTexts(alphabet string, most int) []string {
	l := []string{""}
	for from := 0; from < len(l) && len(l[from]) < most; from++ {
		for i := range len(alphabet) {
			l = append(l, l[from]+alphabet[i:i+1])
		}
	}
	return l
}

// only are those strings of which is holds.
func only(l []string, is func(string) bool) []string {
	return slices.DeleteFunc(slices.Clone(l), func(s string) bool { return !is(s) })
}

// normals are all normal paths of at most most bytes of an alphabet.
func normals(alphabet string, most int) []string {
	return only(shortTexts(alphabet, most), isNormal)
}

// directories are all directories of at most most bytes of an alphabet.
func directories(alphabet string, most int) []string {
	return only(shortTexts(alphabet, most), isDirectory)
}

// everyByte are strings with every byte at several places.
func everyByte() []string {
	var l []string
	for b := range 256 {
		one := string([]byte{byte(b)})
		for _, form := range []string{"#", "/#", "#/", "/#/", "/a#", "/#a", "a#", "#a", "/a/#", "/a/#/", "/.#", "/#.", "/..#", "/#..", "/.#.", "/a#b/c", "/a/#b", "/a/b#/", "/a/./#", "/a/../#", "/a/#/..", "/a#/../b"} {
			l = append(l, strings.ReplaceAll(form, "#", one))
		}
	}
	return l
}

// samples are random strings that are put together from pieces.
func samples(n int) []string {
	r := rand.New(rand.NewSource(14))
	pieces := []string{"/", "/", "/", "/", ".", "..", "/.", "/..", "/a", "/b", "/a/", "a", "...", "/.a", "A", "%2e", "\\", " ", "?", "\x00", "\xff", "é", "\u2044", "/abcdefghijklmnopqrstuvwxyz"}
	var l []string
	for range n {
		var b strings.Builder
		if r.Intn(10) > 0 {
			b.WriteByte('/')
		}
		most := 9 + r.Intn(len(pieces)-8)
		for range r.Intn(12) {
			b.WriteString(pieces[r.Intn(most)])
		}
		l = append(l, b.String())
	}
	return l
}

// ofLengths are paths that are as long as allowed, nearly so, or longer; with segments of one byte, with long ones, and open.
func ofLengths() []string {
	var l []string
	for _, n := range []int{1, 2, 3, 4, 63, 64, 65, 125, 126, 127, 128, 129, 130, 131, 256, 1024} {
		for _, s := range []string{"/a", "/", "/abcdefg", "/ab/", "/" + strings.Repeat("x", n), "/..", "/."} {
			p := strings.Repeat(s, n)[:n]
			l = append(l, p, p[:n-1]+"/", p[:n-1]+"x", "/"+strings.Repeat("y", n-1))
		}
	}
	return l
}

// isNew returns whether a result has memory of its own.
func isNew(result, argument string) bool {
	from := uintptr(unsafe.Pointer(unsafe.StringData(argument)))
	at := uintptr(unsafe.Pointer(unsafe.StringData(result)))
	return result == "" || at < from || at >= from+uintptr(len(argument))
}
