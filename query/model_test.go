package query_test

import (
	"fmt"
	"math/rand"
	"regexp"
	"slices"
	"strconv"
	"strings"
	"testing"
	"unsafe"

	"waypost/api"
	"waypost/query"
)

// The models follow the chapter's Terms by expressions over whole texts.

// stays is what the bytes that stay look like, within brackets.
const stays = `a-zA-Z0-9\-._~/:@!*(),$`

var (
	stayForm    = regexp.MustCompile(`\A[` + stays + `]*\z`)
	literalForm = regexp.MustCompile(`\A(?:[` + stays + `&=+;]|%[0-9A-Fa-f]{2})*\z`)
	queryForm   = regexp.MustCompile(`\A["!$-~]*\z`)
	correctForm = regexp.MustCompile(`\A(?:[^%]|%[0-9A-Fa-f]{2})*\z`)
	codeForm    = regexp.MustCompile(`\A(?:[` + stays + `]|%[0-9A-F]{2})*\z`)
	pieceForm   = regexp.MustCompile(`[^&]+`)
	pairForm    = regexp.MustCompile(`(?s)\A([^=]*)(=?)(.*)\z`)
	escapeForm  = regexp.MustCompile(`%[0-9A-Fa-f]{2}`)
	// saidForm is an escape, or another byte.
	saidForm = regexp.MustCompile(`(?s)%[0-9A-Fa-f]{2}|.`)
)

// encodeOf is what Encode should return.
func encodeOf(s string) string {
	var b strings.Builder
	for i := range len(s) {
		if one := s[i : i+1]; stayForm.MatchString(one) {
			b.WriteString(one)
		} else {
			fmt.Fprintf(&b, "%%%02X", one)
		}
	}
	return b.String()
}

// byteOf is the byte of an escape.
func byteOf(escape string) string {
	n, err := strconv.ParseUint(escape[1:], 16, 8)
	if err != nil {
		panic(escape)
	}
	return string([]byte{byte(n)})
}

// decodeOf is s, decoded.
func decodeOf(s string) string {
	return escapeForm.ReplaceAllStringFunc(s, byteOf)
}

// is returns OK if that is true, otherwise ErrForm.
func is(right bool) api.Errno {
	if right {
		return api.OK
	}
	return api.ErrForm
}

// checkOf is what Check should return.
func checkOf(q string) api.Errno {
	if len(q) > 128 {
		return api.ErrLong
	}
	return is(queryForm.MatchString(q))
}

// correctOf is the error of Decoded.
func correctOf(q string) api.Errno {
	if e := checkOf(q); e != api.OK {
		return e
	}
	return is(correctForm.MatchString(q))
}

// dividedOf are the pairs of a query, not decoded, whatever else it is.
func dividedOf(q string) []api.Pair {
	var l []api.Pair
	for _, piece := range pieceForm.FindAllString(q, -1) {
		parts := pairForm.FindStringSubmatch(piece)
		l = append(l, api.Pair{Name: parts[1], Value: parts[3], Bare: parts[2] == ""})
	}
	return l
}

// pairsOf is what Pairs should return.
func pairsOf(q string) ([]api.Pair, api.Errno) {
	if e := checkOf(q); e != api.OK {
		return nil, e
	}
	return dividedOf(q), api.OK
}

// decodedOf is what Decoded should return.
func decodedOf(q string) ([]api.Pair, api.Errno) {
	if e := correctOf(q); e != api.OK {
		return nil, e
	}
	l := dividedOf(q)
	for i := range l {
		l[i] = api.Pair{Name: decodeOf(l[i].Name), Value: decodeOf(l[i].Value), Bare: l[i].Bare}
	}
	return l, api.OK
}

// getOf is what Get should return: pairs in front win, as they are stored last.
func getOf(q, name string) (string, api.Errno) {
	l, e := decodedOf(q)
	if e != api.OK {
		return "", e
	}
	values := map[string]string{}
	for _, p := range slices.Backward(l) {
		values[p.Name] = p.Value
	}
	value, has := values[name]
	if !has {
		return "", api.ErrMissing
	}
	return value, api.OK
}

// ofLength is the query q, or ErrLong.
func ofLength(q string) (string, api.Errno) {
	if len(q) > 128 {
		return "", api.ErrLong
	}
	return q, api.OK
}

// joinOf is what Join should return.
func joinOf(l []api.Pair) (string, api.Errno) {
	var q []string
	for _, p := range l {
		switch {
		case !p.Bare:
			q = append(q, encodeOf(p.Name)+"="+encodeOf(p.Value))
		case p.Name != "" && p.Value == "":
			q = append(q, encodeOf(p.Name))
		default:
			return "", api.ErrForm
		}
	}
	return ofLength(strings.Join(q, "&"))
}

// appendOf is what Append should return.
func appendOf(q, more string) (string, api.Errno) {
	for _, s := range []string{q, more} {
		if e := checkOf(s); e != api.OK {
			return "", e
		}
	}
	filled := slices.DeleteFunc([]string{more, q}, func(s string) bool { return s == "" })
	return ofLength(strings.Join(filled, "&"))
}

// canonicalOf is what Canonical should return: it rewrites each piece from left to right, byte by byte, without pairs.
func canonicalOf(q string) (string, api.Errno) {
	if e := correctOf(q); e != api.OK {
		return "", e
	}
	var canonical []string
	for _, piece := range pieceForm.FindAllString(q, -1) {
		named := false
		canonical = append(canonical, saidForm.ReplaceAllStringFunc(piece, func(said string) string {
			switch {
			case len(said) == 3:
				return encodeOf(byteOf(said))
			case said == "=" && !named:
				named = true
				return said
			}
			return encodeOf(said)
		}))
	}
	return ofLength(strings.Join(canonical, "&"))
}

// check checks all that is said of one string against the models.
func check(t *testing.T, s string) {
	t.Helper()
	if code, want := query.Encode(s), encodeOf(s); code != want {
		t.Fatalf("%.80q: code %.80q, not %.80q", s, code, want)
	}
	if e, want := query.Check(s), checkOf(s); e != want {
		t.Fatalf("%.80q: check %v, not %v", s, e, want)
	}
	if e, want := query.Literal(s), is(literalForm.MatchString(s)); e != want {
		t.Fatalf("%.80q: literal %v, not %v", s, e, want)
	}
	list, wantErr := pairsOf(s)
	if l, e := query.Pairs(s); !slices.Equal(l, list) || e != wantErr {
		t.Fatalf("%.80q: pairs %.80v %v, not %.80v %v", s, l, e, list, wantErr)
	}
	list, wantErr = decodedOf(s)
	if l, e := query.Decoded(s); !slices.Equal(l, list) || e != wantErr {
		t.Fatalf("%.80q: decoded %.80v %v, not %.80v %v", s, l, e, list, wantErr)
	}
	want, wantErr := canonicalOf(s)
	if q, e := query.Canonical(s); q != want || e != wantErr {
		t.Fatalf("%.80q: canonical %.200q %v, not %.200q %v", s, q, e, want, wantErr)
	}
}

// checkTwo checks all that is said of two strings against the models.
func checkTwo(t *testing.T, a, b string) {
	t.Helper()
	want, wantErr := appendOf(a, b)
	if q, e := query.Append(a, b); q != want || e != wantErr {
		t.Fatalf("%.80q behind %.80q: %.200q %v, not %.200q %v", a, b, q, e, want, wantErr)
	}
	want, wantErr = getOf(a, b)
	if value, e := query.Get(a, b); value != want || e != wantErr {
		t.Fatalf("%.80q: %.80q has %.80q %v, not %.80q %v", a, b, value, e, want, wantErr)
	}
}

// checkGet checks Get against the model, for all names in a query, as they are written and decoded, and for names that are nearly so.
func checkGet(t *testing.T, q string) {
	t.Helper()
	for _, p := range dividedOf(q) {
		for _, name := range []string{p.Name, decodeOf(p.Name), encodeOf(p.Name), p.Name + "=", p.Name + "x", p.Value, ""} {
			checkTwo(t, q, name)
		}
	}
}

// checkJoin checks Join against the model.
func checkJoin(t *testing.T, l []api.Pair) {
	t.Helper()
	want, wantErr := joinOf(l)
	if q, e := query.Join(l); q != want || e != wantErr {
		t.Fatalf("%.80v: joined %.200q %v, not %.200q %v", l, q, e, want, wantErr)
	}
}

// shortTexts are all strings of at most most bytes of an alphabet.
func shortTexts(alphabet string, most int) []string {
	l := []string{""}
	for from := 0; from < len(l) && len(l[from]) < most; from++ {
		for i := range len(alphabet) {
			l = append(l, l[from]+alphabet[i:i+1])
		}
	}
	return l
}

// shortLists are all lists of at most most of these pairs.
func shortLists(pairs []api.Pair, most int) [][]api.Pair {
	l := [][]api.Pair{nil}
	for from := 0; from < len(l) && len(l[from]) < most; from++ {
		for _, p := range pairs {
			l = append(l, append(slices.Clone(l[from]), p))
		}
	}
	return l
}

// smallPairs are all pairs with these names and values, those that have no piece among them.
func smallPairs(texts ...string) []api.Pair {
	var l []api.Pair
	for _, name := range texts {
		for _, value := range texts {
			l = append(l, api.Pair{Name: name, Value: value}, api.Pair{Name: name, Value: value, Bare: true})
		}
	}
	return l
}

// only are those strings of which is holds.
func only(l []string, is func(string) bool) []string {
	return slices.DeleteFunc(slices.Clone(l), func(s string) bool { return !is(s) })
}

// isQuery is whether q is a query.
func isQuery(q string) bool {
	return checkOf(q) == api.OK
}

// isCorrect is whether q is a correct query.
func isCorrect(q string) bool {
	return correctOf(q) == api.OK
}

// wrong are strings that are no correct queries, with each error.
func wrong() []string {
	long := strings.Repeat("a", 128)
	return []string{" ", "#", "a b", "a#", "#a", "a=#", "\x00", "\x7f", "\x80", "é", "a=é", "a&b c", "%zz#", "%41 ", "&#&",
		"%", "%4", "%zz", "a%", "a=%", "a=%4", "%4&1", "%4=1", "%&41", "%=41", "a&b&%", "%41%4", "%%41", "%4%41", "%4g", "%g4", "a=1&b=%4x&c=2", long[:127] + "%", long[:126] + "%4",
		long + "a", long + "#", long + "%", long + " ", strings.Repeat("#", 129), strings.Repeat("&", 129), strings.Repeat("%41", 43), strings.Repeat("a", 1<<12), long[:127] + "#", long[:127] + " "}
}

// everyByte are strings with every byte at several places.
func everyByte() []string {
	var l []string
	for b := range 256 {
		one := string([]byte{byte(b)})
		for _, form := range []string{"#", "#a", "a#", "a#b", "##", "#=", "=#", "a=#", "a=b#c", "a#=b", "&#", "#&", "a&#&b", "a&b=#", "a=1&b#=2", "%#", "%4#", "%#4", "%#f", "%a#", "%F#", "%#%41", "a=%#0", "%0#=a", "a=%41#", "#%41", "#%41=#"} {
			l = append(l, strings.ReplaceAll(form, "#", one))
		}
	}
	return l
}

// everyEscape are queries with an escape of every byte, its digits in each case, at several places.
func everyEscape() []string {
	var l []string
	for b := range 256 {
		upper, lower := fmt.Sprintf("%%%02X", b), fmt.Sprintf("%%%02x", b)
		for _, escape := range []string{upper, lower, upper[:2] + lower[2:], lower[:2] + upper[2:]} {
			for _, form := range []string{"#", "a#b", "#=", "=#", "a=#", "a=b#&c", "#&#", "a#=#b=#"} {
				l = append(l, strings.ReplaceAll(form, "#", escape))
			}
		}
	}
	return l
}

// samples are random strings that are put together from pieces.
func samples(n int) []string {
	r := rand.New(rand.NewSource(16))
	pieces := []string{"a", "b", "&", "=", "a=", "&a", "b=1", "&&", "%41", "%61", "%26", "%3d", "%3D", "%25", "%2f", "+", "%2B", "$", ";", "~", "%7e", "\"", "'", "a=b=c", "%00", "%ff", "/x:y@z", "?", "!*(),", "%4", "%", "#", " ", "\x00", "é", "abcdefghijklmnopqrstuvwxyz"}
	var l []string
	for range n {
		var b strings.Builder
		most := 9 + r.Intn(len(pieces)-8)
		for range r.Intn(20) {
			b.WriteString(pieces[r.Intn(most)])
		}
		l = append(l, b.String())
	}
	return l
}

// randomPairs are random lists of pairs; nearly all of them have pieces.
func randomPairs(n int) [][]api.Pair {
	r := rand.New(rand.NewSource(61))
	text := func() string {
		var b strings.Builder
		for range r.Intn(8) {
			if r.Intn(3) == 0 {
				b.WriteByte(byte(r.Intn(256)))
			} else {
				b.WriteByte("abz09-._~/:@!*(),$&=+;%# "[r.Intn(25)])
			}
		}
		return b.String()
	}
	var l [][]api.Pair
	for range n {
		var pairs []api.Pair
		for range r.Intn(8) {
			p := api.Pair{Name: text(), Value: text(), Bare: r.Intn(3) == 0}
			if p.Bare && r.Intn(20) > 0 {
				p.Name, p.Value = p.Name+"x", ""
			}
			pairs = append(pairs, p)
		}
		l = append(l, pairs)
	}
	return l
}

// ofLengths are strings that are as long as allowed, nearly so, or longer, or whose canonical form is.
func ofLengths() []string {
	var l []string
	for _, n := range []int{1, 2, 3, 41, 42, 43, 44, 63, 64, 65, 125, 126, 127, 128, 129, 130, 131, 256, 384, 1024} {
		for _, s := range []string{"a", "\"", "&", "=", "a=1&", "a&b=+&&", "%41", "%2b", "%", "#", "a\"", "+a=+&", "ab+", " ", "=\"&"} {
			q := strings.Repeat(s, n)[:n]
			l = append(l, q, q[:n-1]+"x", q[:n-1]+"+", q[:n-1]+"&", q[:n-1]+"#", "&"+q[1:], "\""+q[1:])
		}
	}
	// Their canonical forms are about as long as allowed, they themselves are shorter.
	for quotes := range 44 {
		for long := 125; long <= 132; long++ {
			if rest := long - 3*quotes; rest >= 0 {
				l = append(l, strings.Repeat("\"", quotes)+strings.Repeat("a", rest))
			}
		}
	}
	return l
}

// isNew returns whether a result has memory of its own.
func isNew(result, argument string) bool {
	from := uintptr(unsafe.Pointer(unsafe.StringData(argument)))
	at := uintptr(unsafe.Pointer(unsafe.StringData(result)))
	return result == "" || at < from || at >= from+uintptr(len(argument))
}
