package number_test

import (
	"fmt"
	"math"
	"math/big"
	"math/rand"
	"regexp"
	"slices"
	"strings"
	"testing"

	"waypost/api"
	"waypost/number"
)

// The forms of the chapter's Terms.
var (
	decForm  = regexp.MustCompile(`\A[0-9]+\z`)
	hexForm  = regexp.MustCompile(`\A[0-9a-fA-F]+\z`)
	listForm = regexp.MustCompile(`\A[ \t]*[0-9]+[ \t]*(,[ \t]*[0-9]+[ \t]*)*\z`)
)

// read is what Dec or Hex should return, in numbers without a bound.
func read(s string, hex bool, digits int, most uint64) (uint64, api.Errno) {
	form, base := decForm, 10
	if hex {
		form, base = hexForm, 16
	}
	if !form.MatchString(s) {
		return 0, api.ErrForm
	}
	if len(s) > digits {
		return 0, api.ErrLong
	}
	n, ok := new(big.Int).SetString(s, base)
	if !ok {
		panic(s)
	}
	if n.Cmp(new(big.Int).SetUint64(most)) > 0 {
		return 0, api.ErrRange
	}
	return n.Uint64(), api.OK
}

// same is what Same should return.
func same(s string, digits int, most uint64) (uint64, api.Errno) {
	if !listForm.MatchString(s) {
		return 0, api.ErrForm
	}
	var l []uint64
	for _, part := range strings.Split(s, ",") {
		n, e := read(strings.Trim(part, " \t"), false, digits, most)
		if e != api.OK {
			return 0, e
		}
		l = append(l, n)
	}
	if slices.Min(l) != slices.Max(l) {
		return 0, api.ErrExists
	}
	return l[0], api.OK
}

// call calls Dec or Hex.
func call(s string, hex bool, digits int, most uint64) (uint64, api.Errno) {
	if hex {
		return number.Hex(s, digits, most)
	}
	return number.Dec(s, digits, most)
}

// checkRead checks Dec and Hex of a string against the model.
func checkRead(t *testing.T, s string, digits int, most uint64) {
	t.Helper()
	for _, hex := range []bool{false, true} {
		want, wantErr := read(s, hex, digits, most)
		if n, e := call(s, hex, digits, most); n != want || e != wantErr {
			t.Fatalf("%q hex %v, %d digits, most %d: %d %v, not %d %v", s, hex, digits, most, n, e, want, wantErr)
		}
	}
}

// shortTexts are all strings of at most most bytes of an alphabet.
func shortTexts(alphabet string, most int) []string {
	l := []string{""}
	for from := 0; from < len(l) && len(l[from]) < most; from++ {
		for i := range len(alphabet) {
			l = append(l, l[from]+alphabet[i:i+1])
		}
	}
	return l
}

// numbers are small ones, those about powers of two and of ten, and random ones of all sizes.
func numbers() []uint64 {
	var l []uint64
	for n := range uint64(300) {
		l = append(l, n, math.MaxUint64-n)
	}
	for n := uint64(1); n != 0; n <<= 1 {
		l = append(l, n-1, n, n+1)
	}
	for n := uint64(1); n < 1e19; n *= 10 {
		l = append(l, n-1, n, n+1)
	}
	l = append(l, 1e19-1, 1e19, 1e19+1)
	r := rand.New(rand.NewSource(1))
	for range 2000 {
		l = append(l, r.Uint64()>>r.Intn(64))
	}
	return l
}

// mixed is s with letters of random case.
func mixed(s string, r *rand.Rand) string {
	b := []byte(s)
	for i := range b {
		if r.Intn(2) == 0 {
			b[i] = strings.ToUpper(s)[i]
		} else {
			b[i] = strings.ToLower(s)[i]
		}
	}
	return string(b)
}

// texts are numbers as they are written, with leading zeros, one too great, and with a byte that is none of theirs.
func texts() []string {
	var l []string
	r := rand.New(rand.NewSource(2))
	for _, n := range numbers() {
		dec, hex := fmt.Sprintf("%d", n), mixed(fmt.Sprintf("%x", n), r)
		zeros := strings.Repeat("0", r.Intn(30))
		l = append(l, dec, hex, zeros+dec, zeros+hex, dec+"0", hex+"0", "1"+dec, "1"+hex)
		at := r.Intn(len(dec) + 1)
		l = append(l, dec[:at]+string([]byte{byte(r.Intn(256))})+dec[at:])
	}
	return l
}

// example is a call of Dec, Hex or Same, and what comes of it.
type example struct {
	s      string
	digits int
	most   uint64
	want   uint64
	e      api.Errno
}

// checkExamples checks Dec, Hex or Same on examples.
func checkExamples(t *testing.T, do func(string, int, uint64) (uint64, api.Errno), l []example) {
	t.Helper()
	for _, c := range l {
		if n, e := do(c.s, c.digits, c.most); n != c.want || e != c.e {
			t.Errorf("%q %d %d: %d %v", c.s, c.digits, c.most, n, e)
		}
	}
}

// P3.1

func TestExamplesOfDec(t *testing.T) {
	checkExamples(t, number.Dec, []example{
		{"12", 2, 99, 12, api.OK},
		{"012", 2, 99, 0, api.ErrLong},
		{"012", 3, 99, 12, api.OK},
		{"100", 3, 99, 0, api.ErrRange},
		{"99", 2, 99, 99, api.OK},
		{"", 9, 9, 0, api.ErrForm},
		{"-1", 9, 9, 0, api.ErrForm},
		{"+1", 9, 9, 0, api.ErrForm},
		{"1 ", 9, 9, 0, api.ErrForm},
		{"\t1", 9, 9, 0, api.ErrForm},
		{"0x1", 9, 9, 0, api.ErrForm},
		{"1_0", 9, 99, 0, api.ErrForm},
		{"1.0", 9, 99, 0, api.ErrForm},
		{"1e1", 9, 99, 0, api.ErrForm},
		{"1,1", 9, 99, 0, api.ErrForm},
		{"f", 9, 99, 0, api.ErrForm},
		{"1\n", 9, 99, 0, api.ErrForm},
		{"1\x00", 9, 99, 0, api.ErrForm},
		{"\xb2", 9, 99, 0, api.ErrForm},
		{"\u0663", 9, 99, 0, api.ErrForm},
		{"18446744073709551615", 20, math.MaxUint64, math.MaxUint64, api.OK},
		{"18446744073709551616", 20, math.MaxUint64, 0, api.ErrRange},
		{"18446744073709551615", 20, math.MaxUint64 - 1, 0, api.ErrRange},
		{"18446744073709551620", 20, math.MaxUint64, 0, api.ErrRange},
		{"99999999999999999999", 20, math.MaxUint64, 0, api.ErrRange},
		// Wrapped round in a word, these would be small or 0.
		{"36893488147419103232", 20, math.MaxUint64, 0, api.ErrRange},
		{"92233720368547758080", 20, math.MaxUint64, 0, api.ErrRange},
		{"184467440737095516160", 21, math.MaxUint64, 0, api.ErrRange},
		{"0", 1, 0, 0, api.OK},
		{"1", 1, 0, 0, api.ErrRange},
	})
}

func TestExamplesOfHex(t *testing.T) {
	checkExamples(t, number.Hex, []example{
		{"fF", 2, 255, 255, api.OK},
		{"100", 3, 255, 0, api.ErrRange},
		{"100", 3, 256, 256, api.OK},
		{"g", 1, 9, 0, api.ErrForm},
		{"", 9, 9, 0, api.ErrForm},
		{"0x1", 9, 9, 0, api.ErrForm},
		{"1h", 9, 99, 0, api.ErrForm},
		{" a", 9, 99, 0, api.ErrForm},
		{"0fF", 2, 255, 0, api.ErrLong},
		{"ffffffffffffffff", 16, math.MaxUint64, math.MaxUint64, api.OK},
		{"10000000000000000", 17, math.MaxUint64, 0, api.ErrRange},
		{"fffffffffffffffff", 17, math.MaxUint64, 0, api.ErrRange},
	})
}

// With several errors, the form comes first, then the length.
func TestOrderOfErrors(t *testing.T) {
	for _, digits := range []int{math.MinInt, -1, 0, 1} {
		var l []example
		for _, s := range []string{"", "x", "99999x", "99 "} {
			l = append(l, example{s, digits, 5, 0, api.ErrForm})
		}
		for _, s := range []string{"99", "00", "99999999999999999999999"} {
			l = append(l, example{s, digits, 5, 0, api.ErrLong})
		}
		checkExamples(t, number.Dec, l)
		checkExamples(t, number.Hex, l)
	}
}

// Without a digit allowed every number is too long, zero among them.
func TestFewDigits(t *testing.T) {
	for _, digits := range []int{math.MinInt, -1, 0} {
		var l []example
		for _, s := range []string{"0", "1", "00"} {
			l = append(l, example{s, digits, math.MaxUint64, 0, api.ErrLong})
		}
		checkExamples(t, number.Dec, l)
		checkExamples(t, number.Hex, l)
	}
}

func TestReadShort(t *testing.T) {
	for _, s := range shortTexts("0189aFgG,-+ x_", 4) {
		for _, digits := range []int{math.MinInt, 0, 1, 3, 4, math.MaxInt} {
			for _, most := range []uint64{0, 8, 0x8f, 1000, math.MaxUint64} {
				checkRead(t, s, digits, most)
			}
		}
	}
}

func TestReadTexts(t *testing.T) {
	r := rand.New(rand.NewSource(3))
	l := numbers()
	for _, s := range texts() {
		for _, digits := range []int{len(s) - 1, len(s), len(s) + 1, math.MaxInt, r.Intn(40)} {
			checkRead(t, s, digits, math.MaxUint64)
			checkRead(t, s, digits, math.MaxUint64-1)
			checkRead(t, s, digits, l[r.Intn(len(l))])
		}
	}
}

// Whatever byte is put into a number, and wherever, just the digits are taken.
func TestEveryByteInNumbers(t *testing.T) {
	for b := range 256 {
		one := string([]byte{byte(b)})
		for _, s := range []string{one, one + "7", "7" + one, "7" + one + "7"} {
			checkRead(t, s, 3, math.MaxUint64)
		}
	}
}

func TestLongNumbers(t *testing.T) {
	zeros := strings.Repeat("0", 1000000)
	for _, s := range []string{zeros, zeros + "7"} {
		checkRead(t, s, len(s), 7)
		checkRead(t, s, len(s)-1, 7)
		checkRead(t, s, len(s), 6)
	}
	// The model would take long for these.
	l := []example{
		{"1" + zeros, math.MaxInt, math.MaxUint64, 0, api.ErrRange},
		{zeros + "x", math.MaxInt, math.MaxUint64, 0, api.ErrForm},
	}
	checkExamples(t, number.Dec, l)
	checkExamples(t, number.Hex, l)
}

// P3.2

func TestDigit(t *testing.T) {
	for b := range 256 {
		one := string([]byte{byte(b)})
		for _, hex := range []bool{false, true} {
			want, wantErr := read(one, hex, 1, 15)
			if v, e := number.Digit(byte(b), hex); v != int(want) || e != wantErr {
				t.Errorf("%q %v: %d %v", one, hex, v, e)
			}
		}
	}
}

func TestExamplesOfDigit(t *testing.T) {
	for _, c := range []struct {
		b    byte
		hex  bool
		want int
		e    api.Errno
	}{
		{'0', false, 0, api.OK}, {'9', false, 9, api.OK}, {'a', false, 0, api.ErrForm}, {'F', false, 0, api.ErrForm},
		{'0', true, 0, api.OK}, {'9', true, 9, api.OK}, {'a', true, 10, api.OK}, {'A', true, 10, api.OK}, {'f', true, 15, api.OK}, {'F', true, 15, api.OK},
		{'g', true, 0, api.ErrForm}, {'G', true, 0, api.ErrForm}, {'`', true, 0, api.ErrForm}, {'@', true, 0, api.ErrForm}, {'/', true, 0, api.ErrForm}, {':', true, 0, api.ErrForm},
		{0, true, 0, api.ErrForm}, {255, false, 0, api.ErrForm}, {'0' + 128, true, 0, api.ErrForm},
	} {
		if v, e := number.Digit(c.b, c.hex); v != c.want || e != c.e {
			t.Errorf("%q %v: %d %v", c.b, c.hex, v, e)
		}
	}
}

func TestText(t *testing.T) {
	if dec, hex := number.DecText(0), number.HexText(255); dec != "0" || hex != "ff" {
		t.Error(dec, hex)
	}
	if dec, hex := number.DecText(math.MaxUint64), number.HexText(0); dec != "18446744073709551615" || hex != "0" {
		t.Error(dec, hex)
	}
	for _, n := range numbers() {
		if s := number.DecText(n); s != fmt.Sprintf("%d", n) {
			t.Errorf("%d: %q", n, s)
		}
		if s := number.HexText(n); s != fmt.Sprintf("%x", n) {
			t.Errorf("%d: %q", n, s)
		}
	}
}

func TestExamplesOfPrefix(t *testing.T) {
	for s, want := range map[string][2]int{
		"":          {0, 0},
		"12a":       {2, 3},
		"12":        {2, 2},
		"fF0":       {0, 3},
		"g12":       {0, 0},
		" 1":        {0, 0},
		"-1":        {0, 0},
		"0x1":       {1, 1},
		"1,2":       {1, 1},
		"00ag9":     {2, 3},
		"9\xff9":    {1, 1},
		"\u06639":   {0, 0},
		"1234g5678": {4, 4},
	} {
		if dec, hex := number.Prefix(s, false), number.Prefix(s, true); dec != want[0] || hex != want[1] {
			t.Errorf("%q: %d %d", s, dec, hex)
		}
	}
}

func TestPrefix(t *testing.T) {
	l := append(shortTexts("09aFg -", 4), texts()...)
	for b := range 256 {
		l = append(l, "5"+string([]byte{byte(b)})+"5")
	}
	for _, s := range l {
		dec := len(s) - len(strings.TrimLeft(s, "0123456789"))
		hex := len(s) - len(strings.TrimLeft(s, "0123456789abcdefABCDEF"))
		if number.Prefix(s, false) != dec || number.Prefix(s, true) != hex {
			t.Fatalf("%q: %d %d", s, number.Prefix(s, false), number.Prefix(s, true))
		}
	}
}

// P3.3

func TestExamplesOfSame(t *testing.T) {
	checkExamples(t, number.Same, []example{
		{"5, 05 ,5", 2, 50, 5, api.OK},
		{"5", 2, 50, 5, api.OK},
		{"\t 5 \t", 2, 50, 5, api.OK},
		{"5,5,5,5", 2, 50, 5, api.OK},
		{"0,00", 2, 50, 0, api.OK},
		{"5,6", 2, 50, 0, api.ErrExists},
		{"5,5,6", 2, 50, 0, api.ErrExists},
		{"5,6,5", 2, 50, 0, api.ErrExists},
		{"6,5,5", 2, 50, 0, api.ErrExists},
		{"5,", 2, 50, 0, api.ErrForm},
		{",5", 2, 50, 0, api.ErrForm},
		{"5,,5", 2, 50, 0, api.ErrForm},
		{"5, ,5", 2, 50, 0, api.ErrForm},
		{"", 2, 50, 0, api.ErrForm},
		{" ", 2, 50, 0, api.ErrForm},
		{",", 2, 50, 0, api.ErrForm},
		{"5;5", 2, 50, 0, api.ErrForm},
		{"5 5", 2, 50, 0, api.ErrForm},
		{"0 5,5", 2, 50, 0, api.ErrForm},
		{"5,+5", 2, 50, 0, api.ErrForm},
		{"5,a", 2, 50, 0, api.ErrForm},
		{"5,\n5", 2, 50, 0, api.ErrForm},
		{"5\r", 2, 50, 0, api.ErrForm},
		{"5,\v5", 2, 50, 0, api.ErrForm},
		{"5,\u00a05", 2, 50, 0, api.ErrForm},
		{"005", 2, 50, 0, api.ErrLong},
		{"51", 2, 50, 0, api.ErrRange},
	})
}

// The form of the whole list comes first, then the errors of its numbers from left to right, and only then that they differ.
func TestOrderOfErrorsOfSame(t *testing.T) {
	checkExamples(t, number.Same, []example{
		{"005,51,6,x", 2, 50, 0, api.ErrForm},
		{"5,6,", 2, 50, 0, api.ErrForm},
		{"51,x", 2, 50, 0, api.ErrForm},
		{"005,51", 2, 50, 0, api.ErrLong},
		{"51,005", 2, 50, 0, api.ErrRange},
		{"5,6,51", 2, 50, 0, api.ErrRange},
		{"5,6,006", 2, 50, 0, api.ErrLong},
		{"5,6,51,005", 2, 50, 0, api.ErrRange},
		{"5,6,005,51", 2, 50, 0, api.ErrLong},
		{"6,6,5", 2, 50, 0, api.ErrExists},
	})
}

func TestSameOfExtremes(t *testing.T) {
	greatest := "18446744073709551615"
	checkExamples(t, number.Same, []example{
		{greatest + " ,\t0" + greatest, 21, math.MaxUint64, math.MaxUint64, api.OK},
		{greatest + ",18446744073709551616", 20, math.MaxUint64, 0, api.ErrRange},
		{greatest + ",18446744073709551614", 20, math.MaxUint64, 0, api.ErrExists},
		{"5", 0, math.MaxUint64, 0, api.ErrLong},
		{"5,6", math.MinInt, math.MaxUint64, 0, api.ErrLong},
		{"5,x", math.MinInt, 0, 0, api.ErrForm},
		{"0", 1, 0, 0, api.OK},
		{"0,1", math.MaxInt, 0, 0, api.ErrRange},
	})
}

func TestSame(t *testing.T) {
	l := shortTexts("05, \tx;", 5)
	r := rand.New(rand.NewSource(4))
	for range 5000 {
		l = append(l, list(r))
	}
	for _, s := range l {
		for _, digits := range []int{-1, 1, 2, 3, math.MaxInt} {
			for _, most := range []uint64{0, 5, 50, math.MaxUint64} {
				want, wantErr := same(s, digits, most)
				if n, e := number.Same(s, digits, most); n != want || e != wantErr {
					t.Fatalf("%q %d %d: %d %v, not %d %v", s, digits, most, n, e, want, wantErr)
				}
			}
		}
	}
}

// list puts pieces of lists together.
func list(r *rand.Rand) string {
	pieces := []string{"5", "05", "5,5", "51", "5,6", "005", ",", ",", " ", "\t", ", ", "0"}
	s := ""
	for range 1 + r.Intn(8) {
		s += pieces[r.Intn(len(pieces))]
	}
	return s
}

// Whatever byte stands beside the numbers of a list, just blanks and commas may.
func TestEveryByteInLists(t *testing.T) {
	for b := range 256 {
		one := string([]byte{byte(b)})
		for _, s := range []string{one + "7", "7" + one, "7" + one + "7", "7, " + one + " 7", one} {
			want, wantErr := same(s, 2, 7)
			if n, e := number.Same(s, 2, 7); n != want || e != wantErr {
				t.Fatalf("%q: %d %v", s, n, e)
			}
		}
	}
}

func TestLongLists(t *testing.T) {
	s := strings.Repeat("5 ,\t05,", 100000) + "5"
	if n, e := number.Same(s, 2, 5); n != 5 || e != api.OK {
		t.Error(n, e)
	}
	for last, want := range map[string]api.Errno{",6": api.ErrExists, ",": api.ErrForm, ",51": api.ErrRange, ",005": api.ErrLong} {
		if n, e := number.Same(s+last, 2, 6); n != 0 || e != want {
			t.Error(last, n, e)
		}
	}
}

// P3.4

func TestReadOfWritten(t *testing.T) {
	for _, n := range numbers() {
		for _, hex := range []bool{false, true} {
			s := number.DecText(n)
			if hex {
				s = number.HexText(n)
			}
			if x, e := call(s, hex, len(s), n); x != n || e != api.OK {
				t.Fatalf("%q: %d %v", s, x, e)
			}
			if x, e := call(s, hex, len(s)-1, n); x != 0 || e != api.ErrLong {
				t.Fatalf("%q with a digit less: %d %v", s, x, e)
			}
			if n == 0 {
				continue
			}
			if x, e := call(s, hex, len(s), n-1); x != 0 || e != api.ErrRange {
				t.Fatalf("%q with a most of one less: %d %v", s, x, e)
			}
			if s[0] == '0' {
				t.Fatalf("%q", s)
			}
		}
	}
}

// P3.5

func TestLeadingZerosAndCase(t *testing.T) {
	r := rand.New(rand.NewSource(5))
	for _, n := range numbers() {
		zeros := strings.Repeat("0", r.Intn(40))
		dec := zeros + number.DecText(n)
		if x, e := number.Dec(dec, len(dec), n); x != n || e != api.OK {
			t.Fatalf("%q: %d %v", dec, x, e)
		}
		hex := zeros + number.HexText(n)
		for _, s := range []string{hex, strings.ToUpper(hex), mixed(hex, r)} {
			if x, e := number.Hex(s, len(s), n); x != n || e != api.OK {
				t.Fatalf("%q: %d %v", s, x, e)
			}
			if x, e := number.Hex("0"+s, len(s), n); x != 0 || e != api.ErrLong {
				t.Fatalf("a zero too many, %q: %d %v", s, x, e)
			}
		}
		if x, e := number.Dec("0"+dec, len(dec), n); x != 0 || e != api.ErrLong {
			t.Fatalf("a zero too many, %q: %d %v", dec, x, e)
		}
	}
}

// P3.6

func TestGreaterLimits(t *testing.T) {
	r := rand.New(rand.NewSource(6))
	l := numbers()
	for _, s := range texts() {
		for _, hex := range []bool{false, true} {
			digits, most := len(s)+r.Intn(2), l[r.Intn(len(l))]
			n, e := call(s, hex, digits, most)
			if e != api.OK {
				continue
			}
			for _, wider := range []int{digits + r.Intn(10), math.MaxInt} {
				for _, greater := range []uint64{max(most, l[r.Intn(len(l))]), math.MaxUint64} {
					if x, e := call(s, hex, wider, greater); x != n || e != api.OK {
						t.Fatalf("%q %v %d %d: %d %v", s, hex, wider, greater, x, e)
					}
				}
			}
		}
	}
}

// P3.7

func TestSameOfOne(t *testing.T) {
	r := rand.New(rand.NewSource(7))
	l := numbers()
	for _, s := range texts() {
		digits, most := len(s)-1+r.Intn(3), l[r.Intn(len(l))]
		// A byte that was put in may make it a list, or a number with blanks.
		if strings.ContainsAny(s, ", \t") {
			continue
		}
		want, wantErr := number.Dec(s, digits, most)
		if n, e := number.Same(s, digits, most); n != want || e != wantErr {
			t.Fatalf("%q %d %d: %d %v, not %d %v", s, digits, most, n, e, want, wantErr)
		}
	}
}

func TestSameOfEqual(t *testing.T) {
	r := rand.New(rand.NewSource(8))
	blank := func() string {
		s := ""
		for range r.Intn(4) {
			s += []string{" ", "\t"}[r.Intn(2)]
		}
		return s
	}
	for _, n := range numbers() {
		var parts []string
		longest := 0
		for range 1 + r.Intn(5) {
			s := strings.Repeat("0", r.Intn(3)) + number.DecText(n)
			longest = max(longest, len(s))
			parts = append(parts, blank()+s+blank())
		}
		s := strings.Join(parts, ",")
		if x, e := number.Same(s, longest, n); x != n || e != api.OK {
			t.Fatalf("%q: %d %v", s, x, e)
		}
		if x, e := number.Same(s, longest-1, n); x != 0 || e != api.ErrLong {
			t.Fatalf("%q with a digit less: %d %v", s, x, e)
		}
	}
}
