package byteset_test

import (
	"math"
	"math/rand"
	"slices"
	"strings"
	"testing"

	"waypost/api"
	"waypost/byteset"
)

// model is a set of bytes in the plainest way there is.
type model [256]bool

// set makes a set from a model by the definition of its words.
func (m model) set() api.Set {
	var s api.Set
	for b := range 256 {
		if m[b] {
			s[b/64] |= 1 << (b % 64)
		}
	}
	return s
}

// bytes are the bytes of a model, ascending.
func (m model) bytes() []byte {
	var l []byte
	for b := range 256 {
		if m[b] {
			l = append(l, byte(b))
		}
	}
	return l
}

// modelOf reads a set by the definition of its words.
func modelOf(s api.Set) model {
	var m model
	for b := range 256 {
		m[b] = s[b/64]&(1<<(b%64)) != 0
	}
	return m
}

// samples are models of all sizes: empty, full, single bytes, ranges, and sets of random bytes.
func samples() []model {
	var l []model
	for b := range 256 {
		var one, but, low, high model
		for c := range 256 {
			one[c], but[c], low[c], high[c] = c == b, c != b, c < b, c >= b
		}
		l = append(l, one, but, low, high)
	}
	r := rand.New(rand.NewSource(1))
	for range 400 {
		var m model
		part := 1 + r.Intn(12)
		for b := range 256 {
			m[b] = r.Intn(part) == 0
		}
		l = append(l, m)
	}
	return l
}

// pairs goes through pairs of samples, the same ones each time.
func pairs(do func(a, b model)) {
	l := samples()
	r := rand.New(rand.NewSource(2))
	for range 4000 {
		do(l[r.Intn(len(l))], l[r.Intn(len(l))])
	}
}

// of makes a set of the bytes of a string.
func of(text string) api.Set { return byteset.Of([]byte(text)...) }

// P1.1

func TestOf(t *testing.T) {
	if s := byteset.Of('a', 0, 255); s != (api.Set{1, 1 << 33, 0, 1 << 63}) {
		t.Error("a, 0, 255:", s)
	}
	if s := byteset.Of(); s != (api.Set{}) {
		t.Error("nothing:", s)
	}
	if s := byteset.Of(7, 7, 7); s != (api.Set{1 << 7}) {
		t.Error("7 thrice:", s)
	}
	for i, m := range samples() {
		l := m.bytes()
		slices.Reverse(l)
		if s := byteset.Of(l...); s != m.set() {
			t.Fatal(i, l, s)
		}
	}
}

func TestHas(t *testing.T) {
	for i, m := range samples() {
		for b := range 256 {
			if byteset.Has(m.set(), byte(b)) != m[b] {
				t.Fatal(i, b, m.set())
			}
		}
	}
}

func TestUnionAndCommonOfFew(t *testing.T) {
	all := api.Set{math.MaxUint64, math.MaxUint64, math.MaxUint64, math.MaxUint64}
	if s := byteset.Union(); s != (api.Set{}) {
		t.Error("union of none:", s)
	}
	if s := byteset.Common(); s != all {
		t.Error("common of none:", s)
	}
	for i, m := range samples() {
		s := m.set()
		if byteset.Union(s) != s || byteset.Common(s) != s {
			t.Fatal(i, s)
		}
	}
}

func TestUnionAndCommonOfMany(t *testing.T) {
	r := rand.New(rand.NewSource(3))
	l := samples()
	for range 2000 {
		n := 2 + r.Intn(3)
		var some, each model
		for b := range each {
			each[b] = true
		}
		var sets []api.Set
		for range n {
			m := l[r.Intn(len(l))]
			sets = append(sets, m.set())
			for b := range m {
				some[b] = some[b] || m[b]
				each[b] = each[b] && m[b]
			}
		}
		if s := byteset.Union(sets...); s != some.set() {
			t.Fatal("union", sets, s)
		}
		if s := byteset.Common(sets...); s != each.set() {
			t.Fatal("common", sets, s)
		}
	}
}

func TestNot(t *testing.T) {
	for i, m := range samples() {
		n := modelOf(byteset.Not(m.set()))
		for b := range 256 {
			if n[b] == m[b] {
				t.Fatal(i, b, m.set())
			}
		}
	}
}

func TestFold(t *testing.T) {
	if s := byteset.Fold(of("aZ1")); s != of("1AZaz") {
		t.Error(s)
	}
	for i, m := range samples() {
		want := m
		for c := range 26 {
			either := m['a'+c] || m['A'+c]
			want['a'+c], want['A'+c] = either, either
		}
		if s := byteset.Fold(m.set()); s != want.set() {
			t.Fatal(i, m.set(), s)
		}
	}
}

// The bytes beside the letters, and those that differ from letters in one bit only, stay as they are.
func TestFoldLeavesOthers(t *testing.T) {
	for b := range 256 {
		letter := 'a' <= b && b <= 'z' || 'A' <= b && b <= 'Z'
		s := byteset.Of(byte(b))
		if f := byteset.Fold(s); (byteset.Count(f) == 2) != letter || !letter && f != s {
			t.Error(b, f)
		}
	}
}

func TestArgumentsStay(t *testing.T) {
	l := []byte{9, 3, 3, 200}
	byteset.Of(l...)
	if !slices.Equal(l, []byte{9, 3, 3, 200}) {
		t.Error("of:", l)
	}
	ranges := []api.Range{{Low: 9, High: 12}, {Low: 1, High: 3}}
	byteset.Ranges(ranges...)
	if !slices.Equal(ranges, []api.Range{{Low: 9, High: 12}, {Low: 1, High: 3}}) {
		t.Error("ranges:", ranges)
	}
	sets := []api.Set{of("ab"), of("bc"), of("d")}
	byteset.Union(sets...)
	byteset.Common(sets...)
	if !slices.Equal(sets, []api.Set{of("ab"), of("bc"), of("d")}) {
		t.Error("union, common:", sets)
	}
}

// P1.2

func TestRanges(t *testing.T) {
	s, e := byteset.Ranges(api.Range{Low: 'a', High: 'z'}, api.Range{Low: '0', High: '9'})
	if e != api.OK || s != of("abcdefghijklmnopqrstuvwxyz0123456789") || byteset.Text(s) != "0-9a-z" {
		t.Error("a to z, 0 to 9:", s, e)
	}
	if s, e := byteset.Ranges(); s != (api.Set{}) || e != api.OK {
		t.Error("none:", s, e)
	}
	overlap := []api.Range{{Low: 'c', High: 'f'}, {Low: 'a', High: 'd'}, {Low: 'd', High: 'd'}}
	if s, e := byteset.Ranges(overlap...); s != of("abcdef") || e != api.OK {
		t.Error("overlapping:", s, e)
	}
}

func TestEveryRange(t *testing.T) {
	for low := range 256 {
		for high := range 256 {
			s, e := byteset.Ranges(api.Range{Low: byte(low), High: byte(high)})
			var want model
			for b := low; b <= high; b++ {
				want[b] = true
			}
			wantErr := api.OK
			if low > high {
				wantErr = api.ErrOrder
			}
			if s != want.set() || e != wantErr {
				t.Fatal(low, high, s, e)
			}
		}
	}
}

func TestRangesInDisorder(t *testing.T) {
	good, bad := api.Range{Low: 'a', High: 'c'}, api.Range{Low: 'c', High: 'b'}
	for i, l := range [][]api.Range{{bad}, {bad, good}, {good, bad}, {good, bad, good}, {{Low: 255, High: 0}}} {
		if s, e := byteset.Ranges(l...); s != (api.Set{}) || e != api.ErrOrder {
			t.Error(i, s, e)
		}
	}
}

func TestCountAndList(t *testing.T) {
	if n := byteset.Count(byteset.Of('a', 0, 255)); n != 3 {
		t.Error(n)
	}
	if l := byteset.List(byteset.Of('a', 0, 255)); !slices.Equal(l, []byte{0, 97, 255}) {
		t.Error(l)
	}
	for i, m := range samples() {
		if n := byteset.Count(m.set()); n != len(m.bytes()) {
			t.Fatal(i, m.set(), n)
		}
		if l := byteset.List(m.set()); !slices.Equal(l, m.bytes()) {
			t.Fatal(i, m.set(), l)
		}
	}
}

func TestListIsNew(t *testing.T) {
	s := of("abc")
	l := byteset.List(s)
	l[0] = 'z'
	if again := byteset.List(s); string(again) != "abc" {
		t.Error(again)
	}
}

func TestNext(t *testing.T) {
	for i, c := range []struct {
		s    api.Set
		from int
		want int
		e    api.Errno
	}{
		{byteset.Of(5, 9), 6, 9, api.OK},
		{byteset.Of(5, 9), 5, 5, api.OK},
		{byteset.Of(5, 9), 9, 9, api.OK},
		{byteset.Of(5, 9), 10, 0, api.ErrMissing},
		{byteset.Of(5), -9, 5, api.OK},
		{byteset.Of(0), 0, 0, api.OK},
		{byteset.Of(0), 1, 0, api.ErrMissing},
		{byteset.Of(255), 255, 255, api.OK},
		{byteset.Of(255), 256, 0, api.ErrMissing},
		{api.Set{}, 0, 0, api.ErrMissing},
		{api.Set{}, math.MinInt, 0, api.ErrMissing},
	} {
		if n, e := byteset.Next(c.s, c.from); n != c.want || e != c.e {
			t.Error(i, n, e)
		}
	}
}

// The ends of int are where offsets could wrap round.
func TestNextFromAnywhere(t *testing.T) {
	for i, m := range samples() {
		s, l := m.set(), m.bytes()
		for from := -70; from < 330; from++ {
			at := slices.IndexFunc(l, func(b byte) bool { return int(b) >= from })
			n, e := byteset.Next(s, from)
			if at < 0 && (n != 0 || e != api.ErrMissing) || at >= 0 && (n != int(l[at]) || e != api.OK) {
				t.Fatal(i, from, s, n, e)
			}
		}
		for d := range 300 {
			if n, e := byteset.Next(s, math.MaxInt-d); n != 0 || e != api.ErrMissing {
				t.Fatal(i, d, s, n, e)
			}
			low, e := byteset.Next(s, math.MinInt+d)
			zero, want := byteset.Next(s, 0)
			if low != zero || e != want {
				t.Fatal(i, d, s, low, e)
			}
		}
	}
}

// P1.4

func TestAll(t *testing.T) {
	a := byteset.Of('a')
	if !byteset.All(a, "aa") || byteset.All(a, "ab") || byteset.All(a, "ba") || byteset.All(a, "aba") {
		t.Error("a")
	}
	if !byteset.All(api.Set{}, "") || !byteset.All(byteset.Of(3), "") || byteset.All(api.Set{}, "x") {
		t.Error("empty")
	}
	if byteset.All(a, "\xe4") || byteset.All(a, strings.Repeat("a", 100000)+"b") || !byteset.All(a, strings.Repeat("a", 100000)) {
		t.Error("bytes, long")
	}
	for i, m := range samples() {
		s, in := m.set(), string(m.bytes())
		if !byteset.All(s, in) {
			t.Fatal(i, s)
		}
		for b := range 256 {
			if byteset.All(s, in+string([]byte{byte(b)})) != m[b] || byteset.All(s, string([]byte{byte(b)})+in) != m[b] {
				t.Fatal(i, b, s)
			}
		}
	}
}

// P1.5

func TestNotTwice(t *testing.T) {
	for i, m := range samples() {
		s := m.set()
		n := byteset.Not(s)
		if byteset.Not(n) != s || byteset.Common(s, n) != byteset.Union() || byteset.Union(s, n) != byteset.Common() || byteset.Count(byteset.Union(s, n)) != 256 {
			t.Fatal(i, s)
		}
	}
}

// P1.6

func TestNotOfUnion(t *testing.T) {
	pairs(func(a, b model) {
		s, u := a.set(), b.set()
		if byteset.Not(byteset.Union(s, u)) != byteset.Common(byteset.Not(s), byteset.Not(u)) {
			t.Fatal(s, u)
		}
	})
	if byteset.Not(byteset.Union()) != byteset.Common() {
		t.Error("of none")
	}
}

// P1.8

func TestFoldTwice(t *testing.T) {
	pairs(func(a, b model) {
		s, u := a.set(), b.set()
		f := byteset.Fold(s)
		if byteset.Fold(f) != f || byteset.Union(f, s) != f {
			t.Fatal(s, f)
		}
		if byteset.Fold(byteset.Union(s, u)) != byteset.Union(f, byteset.Fold(u)) {
			t.Fatal(s, u)
		}
	})
}

// P1.9

func TestNextGivesList(t *testing.T) {
	for i, m := range samples() {
		s := m.set()
		var l []byte
		n, e := byteset.Next(s, 0)
		for ; e == api.OK; n, e = byteset.Next(s, n+1) {
			l = append(l, byte(n))
		}
		if e != api.ErrMissing || !slices.Equal(l, byteset.List(s)) {
			t.Fatal(i, s, l, e)
		}
	}
}
