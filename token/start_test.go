package token

import (
	"fmt"
	"go/ast"
	"go/parser"
	gotoken "go/token"
	"path/filepath"
	"slices"
	"strings"
	"testing"

	"waypost/api"
	"waypost/byteset"
)

// answers are what all functions of the package say of s.
func answers(s string) string {
	list, listErr := List(s)
	holds, holdsErr := Holds(s, "A")
	joined, joinErr := Join("a", s)
	front, rest, cutErr := Cut(s)
	name, value, colonErr := Colon(s)
	return fmt.Sprintf("%q", []any{
		Is(s), Value(s), Trim(s), Lower(s), Same(s, "aB"),
		list, listErr, holds, holdsErr, joined, joinErr,
		front, rest, cutErr, name, value, colonErr,
	})
}

// everyByte has each byte in the places of tokens, lists and lines.
func everyByte() []string {
	l := []string{"", "Ab", "a, A", "Host: a b"}
	for b := range 256 {
		for _, form := range []string{"%s", "a%s", "%sB", "a,%s", "a:%s", "a: b%sc", "%s:b"} {
			l = append(l, fmt.Sprintf(form, string([]byte{byte(b)})))
		}
	}
	return l
}

// The results are computed by functions: they are the same whatever the variables from the start hold.
func TestResultsWithoutTheStart(t *testing.T) {
	defer func(a, b, c api.Set) { capitals, tokenBytes, valueBytes = a, b, c }(capitals, tokenBytes, valueBytes)
	texts := everyByte()
	var want []string
	for _, s := range texts {
		want = append(want, answers(s))
	}
	for i, set := range []api.Set{{}, byteset.Not(api.Set{}), byteset.Of('a', 'B', ':'), byteset.Not(byteset.Of('A'))} {
		capitals, tokenBytes, valueBytes = set, set, set
		for j, s := range texts {
			if got := answers(s); got != want[j] {
				t.Fatalf("%d: %q: %s, not %s", i, s, got, want[j])
			}
		}
	}
}

func TestSetsFromTheStart(t *testing.T) {
	var upper, inTokens, inValues []byte
	for b := range 256 {
		one := string([]byte{byte(b)})
		if Lower(one) != one {
			upper = append(upper, byte(b))
		}
		if Is(one) {
			inTokens = append(inTokens, byte(b))
		}
		if Value("a" + one + "a") {
			inValues = append(inValues, byte(b))
		}
	}
	if !slices.Equal(byteset.List(capitals), upper) || !slices.Equal(byteset.List(tokenBytes), inTokens) || !slices.Equal(byteset.List(valueBytes), inValues) {
		t.Errorf("%q %q %q", byteset.List(capitals), byteset.List(tokenBytes), byteset.List(valueBytes))
	}
}

// ofStart returns whether an expression is one of the variables from the start.
func ofStart(e ast.Expr) bool {
	name, ok := e.(*ast.Ident)
	return ok && slices.Contains([]string{"capitals", "tokenBytes", "valueBytes"}, name.Name)
}

// functions are all functions of the package, without its tests.
func functions(t *testing.T) []*ast.FuncDecl {
	names, err := filepath.Glob("*.go")
	if err != nil {
		t.Fatal(err)
	}
	var l []*ast.FuncDecl
	for _, name := range names {
		if strings.HasSuffix(name, "_test.go") {
			continue
		}
		file, err := parser.ParseFile(gotoken.NewFileSet(), name, nil, 0)
		if err != nil {
			t.Fatal(err)
		}
		for _, d := range file.Decls {
			if f, ok := d.(*ast.FuncDecl); ok {
				l = append(l, f)
			}
		}
	}
	return l
}

// dropped are the variables from the start that the function reads in statements of their own, which drop what they hold.
func dropped(f *ast.FuncDecl) []string {
	var l []string
	for _, s := range f.Body.List {
		a, ok := s.(*ast.AssignStmt)
		if !ok || len(a.Lhs) != 1 || len(a.Rhs) != 1 || !ofStart(a.Rhs[0]) {
			continue
		}
		if to, ok := a.Lhs[0].(*ast.Ident); ok && to.Name == "_" {
			l = append(l, a.Rhs[0].(*ast.Ident).Name)
		}
	}
	return l
}

// Exported functions read each of the variables, and what a variable holds goes nowhere.
func TestStartIsReadAndDropped(t *testing.T) {
	read := map[string]int{}
	for _, f := range functions(t) {
		uses := 0
		ast.Inspect(f, func(n ast.Node) bool {
			if e, ok := n.(ast.Expr); ok && ofStart(e) {
				uses++
			}
			return true
		})
		names := dropped(f)
		if uses != len(names) {
			t.Errorf("%s computes with a variable from the start", f.Name.Name)
		}
		for _, name := range names {
			if f.Name.IsExported() {
				read[name]++
			}
		}
	}
	if len(read) != 3 {
		t.Errorf("exported functions read only %v", read)
	}
}
