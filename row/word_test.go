package row_test

import (
	"math"
	"math/rand"
	"regexp"
	"slices"
	"strconv"
	"strings"
	"testing"

	"waypost/api"
	"waypost/row"
)

// numberForm is the form of numbers.
var numberForm = regexp.MustCompile(`\A(0|-?[1-9][0-9]{0,8})\z`)

// numberOf is what Number should return.
func numberOf(s string, low, high int) (int, api.Errno) {
	if !numberForm.MatchString(s) {
		return 0, api.ErrForm
	}
	n := 0
	for _, digit := range strings.TrimPrefix(s, "-") {
		n = 10*n + int(digit-'0')
	}
	if s[0] == '-' {
		n = -n
	}
	if n < low || high < n {
		return 0, api.ErrRange
	}
	return n, api.OK
}

// checkNumber checks Number of a string against the model.
func checkNumber(t *testing.T, s string, low, high int) {
	t.Helper()
	want, wantErr := numberOf(s, low, high)
	if n, e := row.Number(s, low, high); n != want || e != wantErr {
		t.Fatalf("%.40q from %d to %d: %d %v, not %d %v", s, low, high, n, e, want, wantErr)
	}
}

// P4.4

func TestExamplesOfNumber(t *testing.T) {
	for _, c := range []struct {
		s         string
		low, high int
		want      int
		e         api.Errno
	}{
		{"07", 0, 9, 0, api.ErrForm},
		{"-3", -5, 5, -3, api.OK},
		{"-0", 0, 9, 0, api.ErrForm},
		{"12", 0, 9, 0, api.ErrRange},
		{"0", 0, 0, 0, api.OK},
		{"00", 0, 9, 0, api.ErrForm},
		{"-07", -9, 9, 0, api.ErrForm},
		{"-00", -9, 9, 0, api.ErrForm},
		{"", 0, 9, 0, api.ErrForm},
		{"-", 0, 9, 0, api.ErrForm},
		{"--1", -9, 9, 0, api.ErrForm},
		{"+1", 0, 9, 0, api.ErrForm},
		{" 1", 0, 9, 0, api.ErrForm},
		{"1 ", 0, 9, 0, api.ErrForm},
		{"1\n", 0, 9, 0, api.ErrForm},
		{"1-", 0, 9, 0, api.ErrForm},
		{"- 1", -9, 9, 0, api.ErrForm},
		{"1_0", 0, 99, 0, api.ErrForm},
		{"1,0", 0, 99, 0, api.ErrForm},
		{"1e1", 0, 99, 0, api.ErrForm},
		{"0x1", 0, 99, 0, api.ErrForm},
		{"a", 0, 99, 0, api.ErrForm},
		{"\u0663", 0, 99, 0, api.ErrForm},
		{"999999999", 0, math.MaxInt, 999999999, api.OK},
		{"999999999", 0, 999999998, 0, api.ErrRange},
		{"1000000000", 0, math.MaxInt, 0, api.ErrForm},
		{"0000000001", 0, math.MaxInt, 0, api.ErrForm},
		{"-999999999", math.MinInt, 0, -999999999, api.OK},
		{"-1000000000", math.MinInt, 0, 0, api.ErrForm},
		{"18446744073709551617", math.MinInt, math.MaxInt, 0, api.ErrForm},
		{"9", 9, 9, 9, api.OK},
		{"8", 9, 9, 0, api.ErrRange},
		{"10", 9, 9, 0, api.ErrRange},
		{"5", 6, 4, 0, api.ErrRange},
		// The form comes first, whatever the limits are.
		{"05", 6, 4, 0, api.ErrForm},
		{"1000000000", 0, 9, 0, api.ErrForm},
		{"-0", 5, 9, 0, api.ErrForm},
	} {
		if n, e := row.Number(c.s, c.low, c.high); n != c.want || e != c.e {
			t.Errorf("%q from %d to %d: %d %v", c.s, c.low, c.high, n, e)
		}
	}
}

func TestNumbers(t *testing.T) {
	limits := []int{math.MinInt, -1000, -10, -1, 0, 1, 9, 10, 100, math.MaxInt}
	for _, s := range shortTexts("0129-+ a_", 5) {
		for _, low := range limits {
			checkNumber(t, s, low, math.MaxInt)
			checkNumber(t, s, math.MinInt, low)
			checkNumber(t, s, low, 50)
		}
	}
	r := rand.New(rand.NewSource(5))
	for range 20000 {
		n := int(r.Uint64()>>r.Intn(64)) / (1 + r.Intn(2)*1000)
		s := strconv.Itoa(n)
		checkNumber(t, s, math.MinInt, math.MaxInt)
		checkNumber(t, s, n, n)
		checkNumber(t, s, n+1, math.MaxInt)
		checkNumber(t, s, math.MinInt, n-1)
		checkNumber(t, "0"+s, math.MinInt, math.MaxInt)
	}
}

func TestEveryByteInNumbers(t *testing.T) {
	for b := range 256 {
		one := string([]byte{byte(b)})
		for _, s := range []string{one, one + "7", "7" + one, "7" + one + "7", "-" + one, "-" + one + "7"} {
			checkNumber(t, s, math.MinInt, math.MaxInt)
		}
	}
}

func TestLongNumbers(t *testing.T) {
	for _, s := range []string{strings.Repeat("9", 1000000), strings.Repeat("0", 1000000) + "7", "-" + strings.Repeat("1", 1000000), strings.Repeat("-", 1000000)} {
		checkNumber(t, s, math.MinInt, math.MaxInt)
	}
}

func TestWhich(t *testing.T) {
	for _, c := range []struct {
		s     string
		names []string
		want  int
		e     api.Errno
	}{
		{"b", []string{"a", "b", "b"}, 1, api.OK},
		{"c", []string{"a", "b"}, 0, api.ErrName},
		{"a", []string{"a", "b"}, 0, api.OK},
		{"b", []string{"a", "c", "b"}, 2, api.OK},
		{"", []string{"a", ""}, 1, api.OK},
		{"", []string{"a"}, 0, api.ErrName},
		{"", nil, 0, api.ErrName},
		{"a", []string{}, 0, api.ErrName},
		{"A", []string{"a"}, 0, api.ErrName},
		{"a", []string{"ab", "", "a ", "ba"}, 0, api.ErrName},
		{"ab", []string{"a", "b"}, 0, api.ErrName},
		{"\xff", []string{"\xfe", "\xff"}, 1, api.OK},
	} {
		before := slices.Clone(c.names)
		if n, e := row.Which(c.s, c.names...); n != c.want || e != c.e {
			t.Errorf("%q of %q: %d %v", c.s, c.names, n, e)
		}
		if !slices.Equal(c.names, before) {
			t.Errorf("changed: %q", c.names)
		}
	}
	if n, e := row.Which("c", "a", "b", "c"); n != 2 || e != api.OK {
		t.Error(n, e)
	}
}
