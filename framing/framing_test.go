package framing_test

import (
	"fmt"
	"math"
	"math/rand"
	"regexp"
	"slices"
	"strconv"
	"strings"
	"testing"
	"unsafe"

	"waypost/api"
	"waypost/framing"
)

const (
	small   = "abcdefghijklmnopqrstuvwxyz"
	capital = "ABCDEFGHIJKLMNOPQRSTUVWXYZ"
)

// The names of the fields that say the framing.
const (
	lengthName   = "Content-Length"
	encodingName = "Transfer-Encoding"
)

// mostBody is the greatest length of a body.
const mostBody = 2048

// lengthForm is an element of a field Content-Length that is a length, with the blanks around it.
var lengthForm = regexp.MustCompile(`\A[ \t]*([0-9]{1,9})[ \t]*\z`)

// lower is s with small letters only.
func lower(s string) string {
	b := []byte(s)
	for i := range b {
		if at := strings.IndexByte(capital, b[i]); at >= 0 {
			b[i] = small[at]
		}
	}
	return string(b)
}

// count is how many of the fields have this name.
func count(l []api.Field, name string) int {
	n := 0
	for _, f := range l {
		if lower(f.Name) == lower(name) {
			n++
		}
	}
	return n
}

// lengthsOf is what Lengths should return.
func lengthsOf(l []api.Field) ([]int, api.Errno) {
	var lengths []int
	for _, f := range l {
		if lower(f.Name) != "content-length" {
			continue
		}
		rest, more := f.Value, true
		for more {
			var element string
			element, rest, more = strings.Cut(rest, ",")
			m := lengthForm.FindStringSubmatch(element)
			if m == nil {
				return nil, api.ErrForm
			}
			n, err := strconv.Atoi(m[1])
			if err != nil {
				panic(element)
			}
			lengths = append(lengths, n)
		}
	}
	return lengths, api.OK
}

// chunkedOf is what Chunked should return.
func chunkedOf(l []api.Field) (bool, api.Errno) {
	n := count(l, encodingName)
	for _, f := range l {
		if lower(f.Name) == "transfer-encoding" && (n > 1 || lower(f.Value) != "chunked") {
			return false, api.ErrForm
		}
	}
	return n == 1, api.OK
}

// framingOf is what Of should return.
func framingOf(l []api.Field) (api.Framing, int) {
	chunked, e := chunkedOf(l)
	lengths, f := lengthsOf(l)
	if count(l, encodingName) > 0 && count(l, lengthName) > 0 || e != api.OK || f != api.OK {
		return api.Framing{}, 400
	}
	if chunked {
		return api.Framing{Kind: 3}, 0
	}
	if count(l, lengthName) == 0 {
		return api.Framing{Kind: 1}, 0
	}
	for _, n := range lengths {
		if n != lengths[0] {
			return api.Framing{}, 400
		}
	}
	if lengths[0] > mostBody {
		return api.Framing{}, 413
	}
	return api.Framing{Kind: 2, Length: lengths[0]}, 0
}

// checkOf is what Check should return.
func checkOf(f api.Framing) api.Errno {
	if f.Kind != 1 && f.Kind != 2 && f.Kind != 3 {
		return api.ErrKind
	}
	if f.Length == 0 || f.Kind == 2 && 0 < f.Length && f.Length <= mostBody {
		return api.OK
	}
	return api.ErrRange
}

// fieldsOf is what Fields should return.
func fieldsOf(f api.Framing) ([]api.Field, api.Errno) {
	if e := checkOf(f); e != api.OK {
		return nil, e
	}
	return map[int][]api.Field{
		2: {{Name: lengthName, Value: fmt.Sprintf("%d", f.Length)}},
		3: {{Name: encodingName, Value: "chunked"}},
	}[f.Kind], api.OK
}

// bytesOf is what Bytes should return.
func bytesOf(f api.Framing, body string) (string, api.Errno) {
	switch e := checkOf(f); {
	case e != api.OK:
		return "", e
	case len(body) > mostBody:
		return "", api.ErrLong
	case f.Kind == 3 && body == "":
		return "0\r\n\r\n", api.OK
	case f.Kind == 3:
		return fmt.Sprintf("%x\r\n%s\r\n0\r\n\r\n", len(body), body), api.OK
	case f.Kind == 1 && body != "", f.Kind == 2 && len(body) != f.Length:
		return "", api.ErrForm
	}
	return body, api.OK
}

// leftOf is what Left should return.
func leftOf(f api.Framing, got int) (int, api.Errno) {
	switch e := checkOf(f); {
	case e != api.OK:
		return 0, e
	case got < 0, f.Kind == 1 && got > 0, f.Kind == 2 && got > f.Length:
		return 0, api.ErrRange
	case f.Kind == 3:
		return -1, api.OK
	}
	return f.Length - got, api.OK
}

// check checks what is said of a list of fields against the model.
func check(t *testing.T, l []api.Field) {
	t.Helper()
	before := slices.Clone(l)
	wantLengths, wantErr := lengthsOf(l)
	if lengths, e := framing.Lengths(l); !slices.Equal(lengths, wantLengths) || e != wantErr {
		t.Fatalf("%.200q: lengths %.20v %v, not %.20v %v", l, lengths, e, wantLengths, wantErr)
	}
	wantIs, wantErr := chunkedOf(l)
	if is, e := framing.Chunked(l); is != wantIs || e != wantErr {
		t.Fatalf("%.200q: chunked %v %v, not %v %v", l, is, e, wantIs, wantErr)
	}
	want, wantStatus := framingOf(l)
	if f, status := framing.Of(l); f != want || status != wantStatus {
		t.Fatalf("%.200q: %v %d, not %v %d", l, f, status, want, wantStatus)
	}
	if !slices.Equal(l, before) {
		t.Fatalf("%.200q is changed to %.200q", before, l)
	}
}

// checkFraming checks Check and Fields against the model.
func checkFraming(t *testing.T, f api.Framing) {
	t.Helper()
	want, wantErr := fieldsOf(f)
	l, e := framing.Fields(f)
	if !slices.Equal(l, want) || e != wantErr {
		t.Fatalf("%v: %q %v, not %q %v", f, l, e, want, wantErr)
	}
	if e := framing.Check(f); e != wantErr {
		t.Fatalf("%v: %v, not %v", f, e, wantErr)
	}
}

// checkBytes checks Bytes against the model.
func checkBytes(t *testing.T, f api.Framing, body string) {
	t.Helper()
	want, wantErr := bytesOf(f, body)
	if s, e := framing.Bytes(f, body); s != want || e != wantErr {
		t.Fatalf("%v, %d bytes %.40q: %.60q %v, not %.60q %v", f, len(body), body, s, e, want, wantErr)
	}
}

// checkLeft checks Left against the model.
func checkLeft(t *testing.T, f api.Framing, got int) {
	t.Helper()
	want, wantErr := leftOf(f, got)
	if n, e := framing.Left(f, got); n != want || e != wantErr {
		t.Fatalf("%v, %d: %d %v, not %d %v", f, got, n, e, want, wantErr)
	}
}

// fields are the fields with these names and values.
func fields(l ...string) []api.Field {
	var made []api.Field
	for i := 0; i < len(l); i += 2 {
		made = append(made, api.Field{Name: l[i], Value: l[i+1]})
	}
	return made
}

// byLength, byChunks and noBody are framings.
func byLength(n int) api.Framing { return api.Framing{Kind: api.ByLength, Length: n} }

func byChunks() api.Framing { return api.Framing{Kind: api.ByChunks} }

func noBody() api.Framing { return api.Framing{Kind: api.NoBody} }

// framings are all valid framings, and others about them.
func framings() []api.Framing {
	var l []api.Framing
	for kind := range 6 {
		for _, n := range []int{math.MinInt, -2048, -1, 0, 1, 2, 255, 256, 2047, 2048, 2049, math.MaxInt} {
			l = append(l, api.Framing{Kind: kind, Length: n})
		}
	}
	for _, kind := range []int{math.MinInt, -3, -2, -1, 257, 1<<32 + 1, math.MaxInt} {
		l = append(l, api.Framing{Kind: kind}, api.Framing{Kind: kind, Length: 5}, api.Framing{Kind: kind, Length: -5})
	}
	for n := range mostBody + 1 {
		l = append(l, byLength(n))
	}
	return l
}

// validFramings are all valid framings.
func validFramings() []api.Framing {
	return slices.DeleteFunc(framings(), func(f api.Framing) bool { return checkOf(f) != api.OK })
}

// shortTexts are all strings of at most most bytes of an alphabet.
func shortTexts(alphabet string, most int) []string {
	l := []string{""}
	for from := 0; from < len(l) && len(l[from]) < most; from++ {
		for i := range len(alphabet) {
			l = append(l, l[from]+alphabet[i:i+1])
		}
	}
	return l
}

// mixed is s with letters of random case.
func mixed(s string, r *rand.Rand) string {
	b := []byte(s)
	for i := range b {
		if at := strings.IndexByte(small+capital, b[i]); at >= 0 {
			b[i] = (small + capital)[at%26+26*r.Intn(2)]
		}
	}
	return string(b)
}

// pick is one of some strings.
func pick(r *rand.Rand, l ...string) string { return l[r.Intn(len(l))] }

// lengthValue is a value of a field Content-Length: in most cases all its lengths are n.
func lengthValue(r *rand.Rand, n int) string {
	var l []string
	for range 1 + r.Intn(3) {
		one := strconv.Itoa(n)
		one = strings.Repeat("0", r.Intn(10-min(len(one), 9))) + one
		if r.Intn(12) == 0 {
			one = pick(r, "", "x", "-1", "+1", "1 2", "0x5", "1234567890", "2049", "999999999", strconv.Itoa(n+1))
		}
		l = append(l, pick(r, "", " ", "\t ")+one+pick(r, "", " ", " \t"))
	}
	return strings.Join(l, ",")
}

// otherFields are fields that say nothing of the framing.
func otherFields() []api.Field {
	return fields("Host", "a", "X", "5", "Content-Length-", "7", "Content_Length", "8", "Content", "9", "Length", "9", "Content-Type", "chunked", "Transfer", "chunked", "Encoding", "chunked", "Transfer_Encoding", "gzip", "TE", "trailers", "Trailer", "x", "", "5", "", "", "Content-Length: 5", "6", " Content-Length", "5", "Content-Length ", "5", "\x00\xff", "\r\n", "X", "Content-Length: 5\r\n")
}

// samples are lists of fields of all kinds.
func samples(n int) [][]api.Field {
	r := rand.New(rand.NewSource(1))
	var lists [][]api.Field
	for range n {
		lengths, encodings := r.Intn(3), r.Intn(2)*r.Intn(2)*(1+r.Intn(2))
		length := []int{0, 5, 2048, 2049, 999999999}[r.Intn(5)]
		if encodings > 0 && r.Intn(3) > 0 {
			lengths = 0
		}
		var l []api.Field
		for range lengths {
			l = append(l, api.Field{Name: mixed(lengthName, r), Value: lengthValue(r, length)})
		}
		for range encodings {
			l = append(l, api.Field{Name: mixed(encodingName, r), Value: mixed(pick(r, "chunked", "chunked", "chunked", "gzip", "gzip, chunked", "chunked,", ""), r)})
		}
		for range r.Intn(4) {
			l = append(l, otherFields()[r.Intn(len(otherFields()))])
		}
		r.Shuffle(len(l), func(i, j int) { l[i], l[j] = l[j], l[i] })
		lists = append(lists, l)
	}
	return lists
}

// isNew returns whether a result has memory of its own.
func isNew(result, argument string) bool {
	from := uintptr(unsafe.Pointer(unsafe.StringData(argument)))
	at := uintptr(unsafe.Pointer(unsafe.StringData(result)))
	return result == "" || at < from || at >= from+uintptr(len(argument))
}

// Limits and constants with which the model computes.
func TestConstants(t *testing.T) {
	if api.MaxBody != mostBody || api.NoBody != 1 || api.ByLength != 2 || api.ByChunks != 3 {
		t.Error("the model computes with other ones")
	}
}

// P9.1

func TestLengths(t *testing.T) {
	for i, c := range []struct {
		l    []api.Field
		want []int
		e    api.Errno
	}{
		{nil, nil, api.OK},
		{[]api.Field{}, nil, api.OK},
		{otherFields(), nil, api.OK},
		{fields(encodingName, "5"), nil, api.OK},
		{fields(lengthName, "1, 2", lengthName, "1"), []int{1, 2, 1}, api.OK},
		{fields(lengthName, "3", "X", "x", "content-LENGTH", "2,1"), []int{3, 2, 1}, api.OK},
		{fields(lengthName, "5"), []int{5}, api.OK},
		{fields(lengthName, "0"), []int{0}, api.OK},
		{fields(lengthName, "000000000"), []int{0}, api.OK},
		{fields(lengthName, "0000000000"), nil, api.ErrForm},
		{fields(lengthName, "000000005"), []int{5}, api.OK},
		{fields(lengthName, "0000000005"), nil, api.ErrForm},
		{fields(lengthName, "2048"), []int{2048}, api.OK},
		{fields(lengthName, "2049"), []int{2049}, api.OK},
		{fields(lengthName, "999999999"), []int{999999999}, api.OK},
		{fields(lengthName, "1000000000"), nil, api.ErrForm},
		{fields(lengthName, "1234567890"), nil, api.ErrForm},
		{fields(lengthName, "18446744073709551616"), nil, api.ErrForm},
		{fields(lengthName, "18446744073709551621"), nil, api.ErrForm},
		{fields(lengthName, " \t5\t , \t\t7 "), []int{5, 7}, api.OK},
		{fields(lengthName, "5,7,5,7"), []int{5, 7, 5, 7}, api.OK},
		{fields(lengthName, "9", encodingName, "chunked"), []int{9}, api.OK},
		{fields(lengthName, ""), nil, api.ErrForm},
		{fields(lengthName, " "), nil, api.ErrForm},
		{fields(lengthName, "\t"), nil, api.ErrForm},
		{fields(lengthName, ","), nil, api.ErrForm},
		{fields(lengthName, "5,"), nil, api.ErrForm},
		{fields(lengthName, ",5"), nil, api.ErrForm},
		{fields(lengthName, "5,,5"), nil, api.ErrForm},
		{fields(lengthName, "5, ,5"), nil, api.ErrForm},
		{fields(lengthName, "5;5"), nil, api.ErrForm},
		{fields(lengthName, "5 5"), nil, api.ErrForm},
		{fields(lengthName, "5\r"), nil, api.ErrForm},
		{fields(lengthName, "5\n"), nil, api.ErrForm},
		{fields(lengthName, "5\x00"), nil, api.ErrForm},
		{fields(lengthName, "\v5"), nil, api.ErrForm},
		{fields(lengthName, "\u00a05"), nil, api.ErrForm},
		{fields(lengthName, "\u0665"), nil, api.ErrForm},
		{fields(lengthName, "-1"), nil, api.ErrForm},
		{fields(lengthName, "-0"), nil, api.ErrForm},
		{fields(lengthName, "+5"), nil, api.ErrForm},
		{fields(lengthName, "1_0"), nil, api.ErrForm},
		{fields(lengthName, "5.0"), nil, api.ErrForm},
		{fields(lengthName, "1e1"), nil, api.ErrForm},
		{fields(lengthName, "0x5"), nil, api.ErrForm},
		{fields(lengthName, "a"), nil, api.ErrForm},
		{fields(lengthName, "\"5\""), nil, api.ErrForm},
		{fields(lengthName, "5", lengthName, ""), nil, api.ErrForm},
		{fields(lengthName, "", lengthName, "5"), nil, api.ErrForm},
		{fields(lengthName, "5", lengthName, "x", lengthName, "5"), nil, api.ErrForm},
		{fields(lengthName, "x,5"), nil, api.ErrForm},
		{fields(lengthName, "5,x"), nil, api.ErrForm},
	} {
		if l, e := framing.Lengths(c.l); !slices.Equal(l, c.want) || e != c.e {
			t.Errorf("%d %.60q: %v %v", i, c.l, l, e)
		}
		check(t, c.l)
	}
}

func TestChunked(t *testing.T) {
	for i, c := range []struct {
		l    []api.Field
		want bool
		e    api.Errno
	}{
		{nil, false, api.OK},
		{otherFields(), false, api.OK},
		{fields(lengthName, "chunked"), false, api.OK},
		{fields(encodingName, "chunked"), true, api.OK},
		{fields("TRANSFER-encoding", "cHuNKeD"), true, api.OK},
		{fields("X", "gzip", encodingName, "CHUNKED", "Y", "gzip"), true, api.OK},
		{fields(encodingName, "chunked", lengthName, "x"), true, api.OK},
		{fields(encodingName, ""), false, api.ErrForm},
		{fields(encodingName, "gzip"), false, api.ErrForm},
		{fields(encodingName, "identity"), false, api.ErrForm},
		{fields(encodingName, "gzip, chunked"), false, api.ErrForm},
		{fields(encodingName, "chunked, chunked"), false, api.ErrForm},
		{fields(encodingName, "chunked,"), false, api.ErrForm},
		{fields(encodingName, ",chunked"), false, api.ErrForm},
		{fields(encodingName, " chunked"), false, api.ErrForm},
		{fields(encodingName, "chunked "), false, api.ErrForm},
		{fields(encodingName, "\tchunked"), false, api.ErrForm},
		{fields(encodingName, "chunked\r"), false, api.ErrForm},
		{fields(encodingName, "chunked\x00"), false, api.ErrForm},
		{fields(encodingName, "xchunked"), false, api.ErrForm},
		{fields(encodingName, "chunkedx"), false, api.ErrForm},
		{fields(encodingName, "chunke"), false, api.ErrForm},
		{fields(encodingName, "chunked;a=b"), false, api.ErrForm},
		{fields(encodingName, "\"chunked\""), false, api.ErrForm},
		// With the runes in mind, k would be the same as the sign of kelvin.
		{fields(encodingName, "chun\u212aed"), false, api.ErrForm},
		{fields(encodingName, "chunked", encodingName, "chunked"), false, api.ErrForm},
		{fields(encodingName, "chunked", "X", "", "transfer-encoding", "chunked"), false, api.ErrForm},
		{fields(encodingName, "chunked", encodingName, ""), false, api.ErrForm},
		{fields(encodingName, "", encodingName, "chunked"), false, api.ErrForm},
		{fields(encodingName, "gzip", encodingName, "chunked"), false, api.ErrForm},
	} {
		if is, e := framing.Chunked(c.l); is != c.want || e != c.e {
			t.Errorf("%d %.60q: %v %v", i, c.l, is, e)
		}
		check(t, c.l)
	}
}

// Each call returns lengths of its own.
func TestLengthsAreNew(t *testing.T) {
	l := fields(lengthName, "1, 2, 3")
	first, _ := framing.Lengths(l)
	if len(first) == 3 {
		first[0], first[2] = 8, 9
	}
	if again, e := framing.Lengths(l); !slices.Equal(again, []int{1, 2, 3}) || e != api.OK {
		t.Error(again, e)
	}
}

// P9.1 and P9.2

func TestOf(t *testing.T) {
	for i, c := range []struct {
		l      []api.Field
		want   api.Framing
		status int
	}{
		{nil, noBody(), 0},
		{[]api.Field{}, noBody(), 0},
		{otherFields(), noBody(), 0},
		{fields(lengthName, "5"), byLength(5), 0},
		{fields("content-length", "05, 5"), byLength(5), 0},
		{fields(lengthName, "5", "X", "6", "CONTENT-LENGTH", "005"), byLength(5), 0},
		{fields(lengthName, "0"), byLength(0), 0},
		{fields(lengthName, "000000000"), byLength(0), 0},
		{fields(lengthName, "2047"), byLength(2047), 0},
		{fields(lengthName, "2048"), byLength(2048), 0},
		{fields(lengthName, "000002048,2048"), byLength(2048), 0},
		{fields(encodingName, "Chunked"), byChunks(), 0},
		{fields("transfer-encoding", "chunked", "Host", "a"), byChunks(), 0},
		{fields(lengthName, "2049"), api.Framing{}, 413},
		{fields(lengthName, "999999999"), api.Framing{}, 413},
		{fields(lengthName, "2049, 02049", lengthName, "2049"), api.Framing{}, 413},
		{fields(lengthName, "000002049"), api.Framing{}, 413},
		{fields(lengthName, "0000002049"), api.Framing{}, 400},
		{fields(lengthName, "1234567890"), api.Framing{}, 400},
		{fields(lengthName, "0000000005"), api.Framing{}, 400},
		{fields(lengthName, "5, 6"), api.Framing{}, 400},
		{fields(lengthName, "5", lengthName, "6"), api.Framing{}, 400},
		{fields(lengthName, "6", lengthName, "5"), api.Framing{}, 400},
		{fields(lengthName, "5,5,6"), api.Framing{}, 400},
		{fields(lengthName, "5,6,5"), api.Framing{}, 400},
		{fields(lengthName, "6,5,5"), api.Framing{}, 400},
		{fields(lengthName, "0,5"), api.Framing{}, 400},
		{fields(lengthName, "5,0"), api.Framing{}, 400},
		// What is wrong otherwise comes before the length.
		{fields(lengthName, "2049, 5"), api.Framing{}, 400},
		{fields(lengthName, "5, 2049"), api.Framing{}, 400},
		{fields(lengthName, "2049, 2050"), api.Framing{}, 400},
		{fields(lengthName, "2049, x"), api.Framing{}, 400},
		{fields(lengthName, "2049", lengthName, ""), api.Framing{}, 400},
		{fields(lengthName, "2049", encodingName, "chunked"), api.Framing{}, 400},
		{fields(lengthName, "2049", encodingName, "gzip"), api.Framing{}, 400},
		{fields(lengthName, "-1"), api.Framing{}, 400},
		{fields(lengthName, ""), api.Framing{}, 400},
		{fields(lengthName, "5,"), api.Framing{}, 400},
		{fields(lengthName, "5", encodingName, "chunked"), api.Framing{}, 400},
		{fields(encodingName, "chunked", lengthName, "5"), api.Framing{}, 400},
		{fields(encodingName, "chunked", lengthName, "0"), api.Framing{}, 400},
		{fields(encodingName, "chunked", lengthName, ""), api.Framing{}, 400},
		{fields(encodingName, "chunked", lengthName, "x"), api.Framing{}, 400},
		{fields(encodingName, "", lengthName, "5"), api.Framing{}, 400},
		{fields(encodingName, "gzip", lengthName, "5"), api.Framing{}, 400},
		{fields(encodingName, "gzip, chunked"), api.Framing{}, 400},
		{fields(encodingName, "gzip"), api.Framing{}, 400},
		{fields(encodingName, ""), api.Framing{}, 400},
		{fields(encodingName, " chunked"), api.Framing{}, 400},
		{fields(encodingName, "chunked", encodingName, "chunked"), api.Framing{}, 400},
	} {
		if f, status := framing.Of(c.l); f != c.want || status != c.status {
			t.Errorf("%d %.60q: %v %d", i, c.l, f, status)
		}
		check(t, c.l)
	}
}

func TestShortValues(t *testing.T) {
	for _, s := range shortTexts("05, \t-x", 5) {
		check(t, fields(lengthName, s))
		check(t, fields(lengthName, s, lengthName, "5"))
	}
	for _, s := range shortTexts("0 ,", 8) {
		check(t, fields(lengthName, s))
	}
	for _, s := range shortTexts("dD, \x00", 4) {
		check(t, fields(encodingName, s))
		check(t, fields(encodingName, "chunke"+s))
		check(t, fields(encodingName, s+"chunked"))
	}
}

// Every byte in the place of each byte of names and values, and between them.
func TestEveryByte(t *testing.T) {
	for _, l := range [][]api.Field{fields(lengthName, "12, 12"), fields(encodingName, "chunked")} {
		name, value := l[0].Name, l[0].Value
		for b := range 256 {
			one := string([]byte{byte(b)})
			for at := range len(value) + 1 {
				check(t, fields(name, value[:at]+one+value[at:]))
				check(t, fields(name, value[:at]+one+value[min(at+1, len(value)):]))
			}
			for at := range len(name) + 1 {
				check(t, fields(name[:at]+one+name[at:], value))
				check(t, fields(name[:at]+one+name[min(at+1, len(name)):], value, name, value))
			}
			check(t, fields(name, one))
		}
	}
}

// Names and values in which another rune stands for a letter or the hyphen.
func TestRunes(t *testing.T) {
	for _, l := range [][]api.Field{
		fields("Tran\u017ffer-Encoding", "gzip"), fields("TRAN\u017fFER-ENCODING", "chunked"),
		fields("Content\u2010Length", "x"), fields("Content\u00adLength", "x"),
		fields("Transfer-Encod\u0130ng", "gzip"), fields("Transfer-Encod\u0131ng", "gzip"),
		fields("\uff23ontent-Length", "x"), fields("Content-Length\u200b", "x"),
		fields("Content\rLength", "x"), fields("Transfer\rEncoding", "x"),
	} {
		if f, status := framing.Of(l); f != noBody() || status != 0 {
			t.Errorf("%q: %v %d", l, f, status)
		}
		check(t, l)
	}
}

func TestSamples(t *testing.T) {
	seen := map[string]int{}
	for _, l := range samples(30000) {
		check(t, l)
		f, status := framing.Of(l)
		seen[fmt.Sprint(f.Kind, status)]++
	}
	for _, what := range []string{"1 0", "2 0", "3 0", "0 400", "0 413"} {
		if seen[what] < 500 {
			t.Errorf("%s: only %d of the samples", what, seen[what])
		}
	}
}

// All lengths about the greatest one.
func TestLengthsAboutTheGreatest(t *testing.T) {
	for n := range 2 * mostBody {
		for _, form := range []string{"%d", "%09d", "%010d", "%[1]d,%[1]d", " %d\t", "1%08d"} {
			check(t, fields(lengthName, fmt.Sprintf(form, n)))
		}
	}
	for n := 1; n < 1e17; n *= 10 {
		for _, m := range []int{n - 1, n, n + 1, 2 * n, 1<<32 + n, 1<<32 + 5, 1<<31 + 5} {
			check(t, fields(lengthName, strconv.Itoa(m)))
		}
	}
}

// Lists and values that no parser would let through have a framing all the same.
func TestLongLists(t *testing.T) {
	long := strings.Repeat("7, ", 300000) + "7"
	for _, l := range [][]api.Field{
		fields(lengthName, long),
		fields(lengthName, long+"x"),
		fields(lengthName, long+"8"),
		fields(lengthName, strings.Repeat("7", 1000000)),
		fields(lengthName, strings.Repeat(" ", 1000000)+"7"),
		fields(encodingName, strings.Repeat("chunked", 100000)),
		fields(strings.Repeat(lengthName, 100000), "5"),
		append(slices.Repeat(fields("Host", "a"), 100000), fields(encodingName, "chunked")...),
		slices.Repeat(fields("Content-length", "5"), 100000),
		slices.Repeat(fields(encodingName, "chunked"), 100000),
		append(slices.Repeat(fields("content-length", "5"), 33), fields("X", "5")...),
	} {
		check(t, l)
	}
}

// P9.3

func TestCheck(t *testing.T) {
	for _, c := range []struct {
		f    api.Framing
		want api.Errno
	}{
		{noBody(), api.OK},
		{byChunks(), api.OK},
		{byLength(0), api.OK},
		{byLength(5), api.OK},
		{byLength(2048), api.OK},
		{byLength(2049), api.ErrRange},
		{byLength(-1), api.ErrRange},
		{api.Framing{Kind: 1, Length: 1}, api.ErrRange},
		{api.Framing{Kind: 1, Length: -1}, api.ErrRange},
		{api.Framing{Kind: 3, Length: 1}, api.ErrRange},
		{api.Framing{Kind: 3, Length: -1}, api.ErrRange},
		{api.Framing{}, api.ErrKind},
		{api.Framing{Kind: 4}, api.ErrKind},
		{api.Framing{Kind: -1}, api.ErrKind},
		{api.Framing{Kind: 4, Length: 2049}, api.ErrKind},
		{api.Framing{Kind: 0, Length: -1}, api.ErrKind},
	} {
		if e := framing.Check(c.f); e != c.want {
			t.Errorf("%v: %v", c.f, e)
		}
	}
	for _, f := range framings() {
		checkFraming(t, f)
	}
}

func TestFields(t *testing.T) {
	for _, c := range []struct {
		f    api.Framing
		want []api.Field
		e    api.Errno
	}{
		{byLength(5), fields("Content-Length", "5"), api.OK},
		{byLength(0), fields("Content-Length", "0"), api.OK},
		{byLength(2048), fields("Content-Length", "2048"), api.OK},
		{byChunks(), fields("Transfer-Encoding", "chunked"), api.OK},
		{noBody(), nil, api.OK},
		{byLength(2049), nil, api.ErrRange},
		{byLength(-5), nil, api.ErrRange},
		{api.Framing{Kind: 1, Length: 1}, nil, api.ErrRange},
		{api.Framing{Kind: 3, Length: 1}, nil, api.ErrRange},
		{api.Framing{Kind: 4, Length: 5}, nil, api.ErrKind},
		{api.Framing{}, nil, api.ErrKind},
	} {
		if l, e := framing.Fields(c.f); !slices.Equal(l, c.want) || e != c.e {
			t.Errorf("%v: %q %v", c.f, l, e)
		}
	}
}

// Each call returns fields of its own.
func TestFieldsAreNew(t *testing.T) {
	for _, f := range []api.Framing{byLength(5), byChunks()} {
		first, _ := framing.Fields(f)
		for i := range first {
			first[i] = api.Field{Name: "X", Value: "x"}
		}
		checkFraming(t, f)
	}
}

// The error of the framing comes first, whatever else is wrong.
func TestFramingIsCheckedFirst(t *testing.T) {
	for _, f := range framings() {
		want := checkOf(f)
		if want == api.OK {
			continue
		}
		for _, body := range []string{"", "abc", strings.Repeat("a", mostBody), strings.Repeat("a", mostBody+1)} {
			if s, e := framing.Bytes(f, body); s != "" || e != want {
				t.Errorf("%v, %d bytes: %.40q %v", f, len(body), s, e)
			}
		}
		for _, got := range []int{math.MinInt, -1, 0, 1, f.Length, math.MaxInt} {
			if n, e := framing.Left(f, got); n != 0 || e != want {
				t.Errorf("%v, %d: %d %v", f, got, n, e)
			}
		}
		if l, e := framing.Fields(f); len(l) != 0 || e != want {
			t.Errorf("%v: %q %v", f, l, e)
		}
	}
}

// P9.4

func TestBytes(t *testing.T) {
	for i, c := range []struct {
		f          api.Framing
		body, want string
		e          api.Errno
	}{
		{byChunks(), "abc", "3\r\nabc\r\n0\r\n\r\n", api.OK},
		{byChunks(), "", "0\r\n\r\n", api.OK},
		{byChunks(), "\r\n", "2\r\n\r\n\r\n0\r\n\r\n", api.OK},
		{byChunks(), "0\r\n\r\n", "5\r\n0\r\n\r\n\r\n0\r\n\r\n", api.OK},
		{byChunks(), strings.Repeat("a", 10), "a\r\naaaaaaaaaa\r\n0\r\n\r\n", api.OK},
		{byChunks(), strings.Repeat("\x00", 16), "10\r\n" + strings.Repeat("\x00", 16) + "\r\n0\r\n\r\n", api.OK},
		{byChunks(), strings.Repeat("\xff", 2047), "7ff\r\n" + strings.Repeat("\xff", 2047) + "\r\n0\r\n\r\n", api.OK},
		{byChunks(), strings.Repeat("a", 2048), "800\r\n" + strings.Repeat("a", 2048) + "\r\n0\r\n\r\n", api.OK},
		{byChunks(), strings.Repeat("a", 2049), "", api.ErrLong},
		{byLength(3), "abc", "abc", api.OK},
		{byLength(3), "\r\n\x00", "\r\n\x00", api.OK},
		{byLength(0), "", "", api.OK},
		{byLength(0), "a", "", api.ErrForm},
		{byLength(2), "abc", "", api.ErrForm},
		{byLength(4), "abc", "", api.ErrForm},
		{byLength(2), "", "", api.ErrForm},
		{byLength(2), "é", "é", api.OK},
		{byLength(1), "é", "", api.ErrForm},
		{byLength(2048), strings.Repeat("a", 2048), strings.Repeat("a", 2048), api.OK},
		{byLength(2047), strings.Repeat("a", 2048), "", api.ErrForm},
		{byLength(2048), strings.Repeat("a", 2047), "", api.ErrForm},
		{byLength(2048), strings.Repeat("a", 2049), "", api.ErrLong},
		{byLength(0), strings.Repeat("a", 2049), "", api.ErrLong},
		{noBody(), "", "", api.OK},
		{noBody(), "a", "", api.ErrForm},
		{noBody(), strings.Repeat("a", 2048), "", api.ErrForm},
		{noBody(), strings.Repeat("a", 2049), "", api.ErrLong},
		{byLength(2049), strings.Repeat("a", 2049), "", api.ErrRange},
		{api.Framing{Kind: 4}, strings.Repeat("a", 2049), "", api.ErrKind},
	} {
		if s, e := framing.Bytes(c.f, c.body); s != c.want || e != c.e {
			t.Errorf("%d: %.60q %v", i, s, e)
		}
		checkBytes(t, c.f, c.body)
	}
}

func TestAllBodies(t *testing.T) {
	r := rand.New(rand.NewSource(2))
	random := make([]byte, mostBody+50)
	r.Read(random)
	for n := range len(random) {
		body := string(random[:n])
		for _, f := range []api.Framing{noBody(), byChunks(), byLength(n), byLength(n - 1), byLength(n + 1), byLength(0), byLength(mostBody)} {
			checkBytes(t, f, body)
		}
	}
	for _, body := range shortTexts("0\r\n", 5) {
		for _, f := range framings()[:72] {
			checkBytes(t, f, body)
		}
	}
	for b := range 256 {
		body := string([]byte{byte(b)})
		checkBytes(t, byLength(1), body)
		checkBytes(t, byChunks(), body)
	}
	checkBytes(t, byChunks(), strings.Repeat("a", 10000000))
}

func TestBytesAreNew(t *testing.T) {
	for _, body := range []string{"a", "abc", strings.Repeat("a", 2048)} {
		for _, f := range []api.Framing{byLength(len(body)), byChunks()} {
			s, e := framing.Bytes(f, body)
			if s == "" || e != api.OK || !isNew(s, body) {
				t.Errorf("%v, %d bytes: %v", f, len(body), e)
			}
		}
	}
}

func TestLeft(t *testing.T) {
	for i, c := range []struct {
		f         api.Framing
		got, want int
		e         api.Errno
	}{
		{byLength(5), 3, 2, api.OK},
		{byLength(5), 0, 5, api.OK},
		{byLength(5), 5, 0, api.OK},
		{byLength(5), 6, 0, api.ErrRange},
		{byLength(5), -1, 0, api.ErrRange},
		{byLength(0), 0, 0, api.OK},
		{byLength(0), 1, 0, api.ErrRange},
		{byLength(2048), 2048, 0, api.OK},
		{byLength(2048), 2049, 0, api.ErrRange},
		{byLength(5), math.MinInt, 0, api.ErrRange},
		{byLength(5), math.MaxInt, 0, api.ErrRange},
		{byChunks(), 9, -1, api.OK},
		{byChunks(), 0, -1, api.OK},
		{byChunks(), 2049, -1, api.OK},
		{byChunks(), math.MaxInt, -1, api.OK},
		{byChunks(), -1, 0, api.ErrRange},
		{byChunks(), math.MinInt, 0, api.ErrRange},
		{noBody(), 0, 0, api.OK},
		{noBody(), 1, 0, api.ErrRange},
		{noBody(), -1, 0, api.ErrRange},
		{noBody(), math.MinInt, 0, api.ErrRange},
		{byLength(2049), -1, 0, api.ErrRange},
		{api.Framing{Kind: 4}, -1, 0, api.ErrKind},
	} {
		if n, e := framing.Left(c.f, c.got); n != c.want || e != c.e {
			t.Errorf("%d: %d %v", i, n, e)
		}
	}
	for _, f := range framings() {
		for _, got := range []int{math.MinInt, math.MinInt + 1, -2, -1, 0, 1, 2, f.Length / 2, f.Length - 1, f.Length, f.Length + 1, f.Length + 2, -f.Length, 2047, 2048, 2049, 1 << 32, math.MaxInt} {
			checkLeft(t, f, got)
		}
	}
}

// P9.5

func TestFieldsSayTheFraming(t *testing.T) {
	others := otherFields()
	for i, f := range validFramings() {
		own, e := framing.Fields(f)
		if e != api.OK {
			t.Fatalf("%v: %v", f, e)
		}
		before, behind := i%len(others), i/len(others)%len(others)
		l := slices.Concat(others[:before], own, others[behind:])
		for _, l := range [][]api.Field{own, l, slices.Concat(own, others), slices.Concat(others, own)} {
			if got, status := framing.Of(l); got != f || status != 0 {
				t.Fatalf("%q: %v %d, not %v", l, got, status, f)
			}
		}
	}
}

// P9.6

func TestOrderAndCaseDoNotMatter(t *testing.T) {
	r := rand.New(rand.NewSource(3))
	for _, l := range samples(5000) {
		want, wantStatus := framing.Of(l)
		for range 4 {
			other := slices.Clone(l)
			r.Shuffle(len(other), func(i, j int) { other[i], other[j] = other[j], other[i] })
			for i := range other {
				other[i].Name = mixed(other[i].Name, r)
			}
			if f, status := framing.Of(other); f != want || status != wantStatus {
				t.Fatalf("%q: %v %d, not %v %d as for %q", other, f, status, want, wantStatus, l)
			}
		}
	}
}

// Each letter of the names in either case, the others as they are, small or capital.
func TestCaseOfEachLetter(t *testing.T) {
	for _, l := range [][]api.Field{fields(lengthName, "7"), fields(encodingName, "chunked"), fields(encodingName, "gzip")} {
		want, wantStatus := framing.Of(l)
		for _, name := range []string{l[0].Name, strings.ToLower(l[0].Name), strings.ToUpper(l[0].Name)} {
			for at := range len(name) {
				for _, one := range []string{strings.ToLower(name[at : at+1]), strings.ToUpper(name[at : at+1])} {
					other := fields(name[:at]+one+name[at+1:], l[0].Value)
					if f, status := framing.Of(other); f != want || status != wantStatus {
						t.Errorf("%q: %v %d, not %v %d", other, f, status, want, wantStatus)
					}
				}
			}
		}
	}
}

// P9.7

func TestFramingsAreValid(t *testing.T) {
	for _, l := range samples(20000) {
		f, status := framing.Of(l)
		switch status {
		case 0:
			if e := framing.Check(f); e != api.OK {
				t.Fatalf("%q: %v is not valid: %v", l, f, e)
			}
		case 400, 413:
			if f != (api.Framing{}) {
				t.Fatalf("%q: %v with %d", l, f, status)
			}
		default:
			t.Fatalf("%q: %d", l, status)
		}
	}
}

// P9.8

func TestLeftFallsByOne(t *testing.T) {
	for _, f := range validFramings() {
		if f.Kind == api.ByChunks {
			continue
		}
		want := f.Length
		for got := range f.Length + 1 {
			if n, e := framing.Left(f, got); n != want || e != api.OK {
				t.Fatalf("%v, %d: %d %v", f, got, n, e)
			}
			want--
		}
		if n, e := framing.Left(f, f.Length); n != 0 || e != api.OK {
			t.Fatalf("%v with all bytes: %d %v", f, n, e)
		}
	}
}

// P9.9

func TestEqualLengthsCountAsOne(t *testing.T) {
	r := rand.New(rand.NewSource(4))
	for _, n := range []int{0, 1, 5, 10, 2047, 2048, 2049, 999999999} {
		want, wantStatus := framing.Of(fields(lengthName, strconv.Itoa(n)))
		for range 500 {
			var l []api.Field
			for range 1 + r.Intn(5) {
				var elements []string
				for range 1 + r.Intn(5) {
					digits := fmt.Sprintf("%0*d", 1+r.Intn(9), n)
					elements = append(elements, pick(r, "", " ", "\t")+digits+pick(r, "", " ", "\t"))
				}
				l = append(l, api.Field{Name: mixed(lengthName, r), Value: strings.Join(elements, ",")})
			}
			if f, status := framing.Of(l); f != want || status != wantStatus {
				t.Fatalf("%q: %v %d, not %v %d", l, f, status, want, wantStatus)
			}
			other := slices.Clone(l)
			other[r.Intn(len(l))].Value += "," + strconv.Itoa(n+1)
			if f, status := framing.Of(other); f != (api.Framing{}) || status != 400 {
				t.Fatalf("%q: %v %d", other, f, status)
			}
		}
	}
}
