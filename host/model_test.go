package host_test

import (
	"fmt"
	"math/rand"
	"regexp"
	"slices"
	"strconv"
	"strings"
	"testing"
	"unsafe"

	"waypost/api"
	"waypost/host"
)

// The models follow the chapter's Terms by expressions over whole texts.

var (
	// hostForm is a host as it may be written, but for the length of the name and the range of the port.
	hostForm = regexp.MustCompile(`\A((?:` + label + `\.)*` + label + `)(?::([0-9]{1,5}))?\z`)
	// normalForm is a normal host, but for its length and for ports that are too great.
	normalForm = regexp.MustCompile(`\A[0-9a-z.-]+(?::[1-9][0-9]*)?\z`)
)

// label is what a label looks like.
const label = `[0-9A-Za-z](?:[0-9A-Za-z-]{0,61}[0-9A-Za-z])?`

// splitOf is what Split should return.
func splitOf(s string) (string, int, api.Errno) {
	if len(s) > 128 {
		return "", 0, api.ErrLong
	}
	parts := hostForm.FindStringSubmatch(s)
	if parts == nil {
		return "", 0, api.ErrForm
	}
	if len(parts[1]) > 64 {
		return "", 0, api.ErrLong
	}
	// Hosts have no bytes that are no ASCII, so that strings.ToLower changes nothing else.
	name, port := strings.ToLower(parts[1]), 80
	if parts[2] != "" {
		port, _ = strconv.Atoi(parts[2])
	}
	if port == 0 || port > 65535 {
		return "", 0, api.ErrRange
	}
	return name, port, api.OK
}

// normalOf is what Normal should return.
func normalOf(s string) (string, api.Errno) {
	name, port, e := splitOf(s)
	if e != api.OK {
		return "", e
	}
	text := strings.TrimSuffix(fmt.Sprintf("%s:%d", name, port)+"#", ":80#")
	text = strings.TrimSuffix(text, "#")
	if len(text) > 64 {
		return "", api.ErrLong
	}
	return text, api.OK
}

// isNormal is what Is should return: it looks at the text, and normalizes nothing.
func isNormal(s string) bool {
	_, _, e := splitOf(s)
	return e == api.OK && len(s) <= 64 && normalForm.MatchString(s) && !strings.HasSuffix(s, ":80")
}

// labelsOf is what Labels should return.
func labelsOf(s string) ([]string, api.Errno) {
	name, _, e := splitOf(s)
	return strings.FieldsFunc(name, func(r rune) bool { return r == '.' }), e
}

// joinOf is what Join should return.
func joinOf(name string, port int) (string, api.Errno) {
	if _, _, e := splitOf(name); e != api.OK {
		return "", e
	}
	if strings.IndexByte(name, ':') >= 0 {
		return "", api.ErrForm
	}
	if port < 1 || port > 65535 {
		return "", api.ErrRange
	}
	return normalOf(fmt.Sprintf("%s:%d", name, port))
}

// firstError is the error of a, or that of b if a has none.
func firstError(a, b string) api.Errno {
	if _, _, e := splitOf(a); e != api.OK {
		return e
	}
	_, _, e := splitOf(b)
	return e
}

// sameOf is what Same should return.
func sameOf(a, b string) (bool, api.Errno) {
	if e := firstError(a, b); e != api.OK {
		return false, e
	}
	name, port, _ := splitOf(a)
	other, otherPort, _ := splitOf(b)
	return strings.EqualFold(name, other) && port == otherPort, api.OK
}

// underOf is what Under should return: it compares the labels.
func underOf(s, domain string) (bool, api.Errno) {
	if e := firstError(s, domain); e != api.OK {
		return false, e
	}
	l, _ := labelsOf(s)
	upper, _ := labelsOf(domain)
	return len(l) >= len(upper) && slices.Equal(l[len(l)-len(upper):], upper), api.OK
}

// keyOf is a text by which hosts are ordered: the labels from the last one on, each with a byte behind it that is less than all bytes of labels, and the port with leading zeros.
func keyOf(s string) string {
	l, _ := labelsOf(s)
	_, port, _ := splitOf(s)
	slices.Reverse(l)
	return strings.Join(l, "\x01") + "\x01\x00" + fmt.Sprintf("%05d", port)
}

// compareOf is what Compare should return.
func compareOf(a, b string) (int, api.Errno) {
	if e := firstError(a, b); e != api.OK {
		return 0, e
	}
	return strings.Compare(keyOf(a), keyOf(b)), api.OK
}

// check checks all that is said of one host against the models.
func check(t *testing.T, s string) {
	t.Helper()
	wantName, wantPort, wantErr := splitOf(s)
	if name, port, e := host.Split(s); name != wantName || port != wantPort || e != wantErr {
		t.Fatalf("%.80q: split %.80q %d %v, not %.80q %d %v", s, name, port, e, wantName, wantPort, wantErr)
	}
	want, wantErr := normalOf(s)
	if text, e := host.Normal(s); text != want || e != wantErr {
		t.Fatalf("%.80q: normal %.80q %v, not %.80q %v", s, text, e, want, wantErr)
	}
	if host.Is(s) != isNormal(s) {
		t.Fatalf("%.80q: is %v", s, host.Is(s))
	}
	list, wantErr := labelsOf(s)
	if l, e := host.Labels(s); !slices.Equal(l, list) || e != wantErr {
		t.Fatalf("%.80q: labels %.20q %v, not %.20q %v", s, l, e, list, wantErr)
	}
}

// checkTwo checks all that is said of two hosts against the models.
func checkTwo(t *testing.T, a, b string) {
	t.Helper()
	want, wantErr := sameOf(a, b)
	if is, e := host.Same(a, b); is != want || e != wantErr {
		t.Fatalf("%.80q and %.80q: same %v %v, not %v %v", a, b, is, e, want, wantErr)
	}
	want, wantErr = underOf(a, b)
	if is, e := host.Under(a, b); is != want || e != wantErr {
		t.Fatalf("%.80q under %.80q: %v %v, not %v %v", a, b, is, e, want, wantErr)
	}
	order, wantErr := compareOf(a, b)
	if n, e := host.Compare(a, b); n != order || e != wantErr {
		t.Fatalf("%.80q and %.80q: compare %d %v, not %d %v", a, b, n, e, order, wantErr)
	}
}

// checkJoin checks Join against the model.
func checkJoin(t *testing.T, name string, port int) {
	t.Helper()
	want, wantErr := joinOf(name, port)
	if s, e := host.Join(name, port); s != want || e != wantErr {
		t.Fatalf("%.80q joined with %d: %.80q %v, not %.80q %v", name, port, s, e, want, wantErr)
	}
}

// shortTexts are all strings of at most most bytes of an alphabet.
func shortTexts(alphabet string, most int) []string {
	l := []string{""}
	for from := 0; from < len(l) && len(l[from]) < most; from++ {
		for i := range len(alphabet) {
			l = append(l, l[from]+alphabet[i:i+1])
		}
	}
	return l
}

// only are those strings of which is holds.
func only(l []string, is func(string) bool) []string {
	return slices.DeleteFunc(slices.Clone(l), func(s string) bool { return !is(s) })
}

// isHost is whether s is a host as it may be written.
func isHost(s string) bool {
	_, _, e := splitOf(s)
	return e == api.OK
}

// withPorts are hosts with these names, without a port and with several ones.
func withPorts(names []string) []string {
	var l []string
	for _, name := range names {
		for _, port := range []string{"", ":80", ":0080", ":1", ":9", ":81", ":0081", ":100", ":65535"} {
			l = append(l, name+port)
		}
	}
	return l
}

// wrong are strings that are no hosts, with each error.
func wrong() []string {
	long := strings.Repeat("a", 63)
	return []string{"", ".", ":", "a:", ":80", "a..b", ".a", "a.", "-a", "a-", "a.-b", "a-.b", "a_b", "a b", "a:123456", "a:8x", "a:8:0", "a:-1", "a:+1", "a: 1", "a/b", "[::1]", "é", "\u212a",
		"a:0", "a:00000", "a:65536", "a:99999",
		long + "a", long + ".b", long + ".b:1", long + ".b:0", long + ".b:", long + ".-", strings.Repeat("a", 129), strings.Repeat("-", 129), strings.Repeat("a.", 64), strings.Repeat("a.", 64) + "a", strings.Repeat("a.", 63) + "a:", strings.Repeat("a", 1<<16)}
}

// everyByte are strings with every byte at several places.
func everyByte() []string {
	var l []string
	for b := range 256 {
		one := string([]byte{byte(b)})
		for _, form := range []string{"#", "#a", "a#", "a#b", "a.#", "#.a", "a.#.b", "a.b#.c", "a.b#c.d", "a.#b", "a:#", "a:#1", "a:1#", "a:1#2", "a:80#", "#:81", "a#:81", "a:1234#", "a:12345#", "-#", "#-", "a-#-b", "a##b", "##"} {
			l = append(l, strings.ReplaceAll(form, "#", one))
		}
	}
	return l
}

// samples are random strings that are put together from pieces.
func samples(n int) []string {
	r := rand.New(rand.NewSource(15))
	pieces := []string{"a", "b", "A", "B", "org", ".", ".", ".", ".a", ".A", ".b.", "-", "0", "9", "x-y", "xn--a", "Z", "z", ":", ":80", ":8080", ":0443", ":65535", ":65536", ":0", "_", " ", "\x00", "é", "@", "[", "`", "{", "/", "abcdefghijklmnopqrstuvwxyz", "ABCDEFGHIJKLMNOPQRSTUVWXYZ"}
	var l []string
	for range n {
		var b strings.Builder
		b.WriteString(pieces[r.Intn(5)])
		most := 9 + r.Intn(len(pieces)-8)
		for range r.Intn(10) {
			b.WriteString(pieces[r.Intn(most)])
		}
		if r.Intn(3) > 0 {
			b.WriteString(pieces[r.Intn(5)])
		}
		if r.Intn(3) == 0 {
			fmt.Fprintf(&b, ":%0*d", r.Intn(6), r.Intn(1<<r.Intn(18)))
		}
		l = append(l, b.String())
	}
	return l
}

// ofLengths are hosts whose names, labels, or whole texts are as long as allowed, nearly so, or longer, in lower and in upper case.
func ofLengths() []string {
	var l []string
	for _, n := range []int{1, 2, 56, 57, 58, 59, 60, 61, 62, 63, 64, 65, 66, 67, 121, 122, 123, 124, 125, 126, 127, 128, 129, 130, 131, 256, 1024} {
		for _, s := range []string{"a", "A", "a.", "B.a.", "abcdefg.", "-", "aA-", strings.Repeat("x", 62) + ".", strings.Repeat("x", 63) + ".", strings.Repeat("x", 64) + "."} {
			name := strings.Repeat(s, n)[:n]
			for _, one := range []string{name, name[:n-1] + "z", "0" + name[min(1, n-1):n-1] + "z"} {
				for _, port := range []string{"", ":", ":0", ":1", ":80", ":080", ":0080", ":81", ":081", ":443", ":8080", ":08080", ":65535", ":65536", ":123456", ":x", ":1:2"} {
					l = append(l, one+port)
				}
			}
		}
	}
	return l
}

// isNew returns whether a result has memory of its own.
func isNew(result, argument string) bool {
	from := uintptr(unsafe.Pointer(unsafe.StringData(argument)))
	at := uintptr(unsafe.Pointer(unsafe.StringData(result)))
	return result == "" || at < from || at >= from+uintptr(len(argument))
}
