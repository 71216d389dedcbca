package token

import (
	"fmt"
	"slices"
	"testing"

	"waypost/api"
	"waypost/byteset"
)

// answers are what all functions of the package say of s.
func answers(s string) string {
	list, listErr := List(s)
	holds, holdsErr := Holds(s, "A")
	joined, joinErr := Join("a", s)
	front, rest, cutErr := Cut(s)
	name, value, colonErr := Colon(s)
	return fmt.Sprintf("%q", []any{
		Is(s), Value(s), Trim(s), Lower(s), Same(s, "aB"),
		list, listErr, holds, holdsErr, joined, joinErr,
		front, rest, cutErr, name, value, colonErr,
	})
}

// everyByte has each byte in the places of tokens, lists and lines.
func everyByte() []string {
	l := []string{"", "Ab", "a, A", "Host: a b"}
	for b := range 256 {
		for _, form := range []string{"%s", "a%s", "%sB", "a,%s", "a:%s", "a: b%sc", "%s:b"} {
			l = append(l, fmt.Sprintf(form, string([]byte{byte(b)})))
		}
	}
	return l
}

// The results are computed by functions: they are the same whatever the variables from the start hold.
func TestResultsWithoutTheStart(t *testing.T) {
	defer func(a, b, c api.Set) { capitals, tokenBytes, valueBytes = a, b, c }(capitals, tokenBytes, valueBytes)
	texts := everyByte()
	var want []string
	for _, s := range texts {
		want = append(want, answers(s))
	}
	for i, set := range []api.Set{{}, byteset.Not(api.Set{}), byteset.Of('a', 'B', ':'), byteset.Not(byteset.Of('A'))} {
		capitals, tokenBytes, valueBytes = set, set, set
		for j, s := range texts {
			if got := answers(s); got != want[j] {
				t.Fatalf("%d: %q: %s, not %s", i, s, got, want[j])
			}
		}
	}
}

func TestSetsFromTheStart(t *testing.T) {
	var upper, inTokens, inValues []byte
	for b := range 256 {
		one := string([]byte{byte(b)})
		if Lower(one) != one {
			upper = append(upper, byte(b))
		}
		if Is(one) {
			inTokens = append(inTokens, byte(b))
		}
		if Value("a" + one + "a") {
			inValues = append(inValues, byte(b))
		}
	}
	if !slices.Equal(byteset.List(capitals), upper) || !slices.Equal(byteset.List(tokenBytes), inTokens) || !slices.Equal(byteset.List(valueBytes), inValues) {
		t.Errorf("%q %q %q", byteset.List(capitals), byteset.List(tokenBytes), byteset.List(valueBytes))
	}
}
