package pattern_test

import (
	"math"
	"math/rand"
	"slices"
	"strings"
	"testing"

	"waypost/api"
	"waypost/byteset"
	"waypost/pattern"
)

// isSame is whether two trees are equal.
func isSame(a, b api.Tree) bool {
	return slices.Equal(a.Nodes, b.Nodes) && a.Begin == b.Begin && a.End == b.End && a.Groups == b.Groups
}

// copyOf is a tree with nodes of its own.
func copyOf(t api.Tree) api.Tree {
	t.Nodes = slices.Clone(t.Nodes)
	return t
}

// check checks Parse against the model; if the text is a pattern, then also what is said of its tree.
func check(t *testing.T, s string) {
	t.Helper()
	if checkParse(t, s) {
		checkTree(t, treeOf(s))
	}
}

// checkParse checks Parse against the model, and returns whether the text is a pattern.
func checkParse(t *testing.T, s string) bool {
	t.Helper()
	want, wantFault := api.Tree{}, faultOf(s)
	if wantFault.Err == api.OK {
		want = treeOf(s)
	}
	if x, f := pattern.Parse(s); f != wantFault || !isSame(x, want) {
		t.Fatalf("%.100q: %v %v, not %v %v", s, f, x, wantFault, want)
	}
	return wantFault.Err == api.OK
}

// checkTree checks all functions with a tree against the models, with all numbers that matter.
func checkTree(t *testing.T, x api.Tree) {
	t.Helper()
	kept := copyOf(x)
	if want := checkOf(x); want != api.OK {
		checkWrong(t, x, want)
	} else {
		checkLooks(t, x)
		checkGroups(t, x)
	}
	if !isSame(x, kept) {
		t.Fatalf("%v became %v", kept, x)
	}
}

// checkWrong checks that all functions return the error of a tree, and nothing else.
func checkWrong(t *testing.T, x api.Tree, want api.Errno) {
	t.Helper()
	if e := pattern.Check(x); e != want {
		t.Fatalf("%v: %v, not %v", x, e, want)
	}
	if s, e := pattern.Text(x); s != "" || e != want {
		t.Fatalf("%v: text %q %v, not %v", x, s, e, want)
	}
	for _, n := range []int{math.MinInt, -1, 0, 1, 10, 300, math.MaxInt} {
		l, e := pattern.Kids(x, n)
		is, f := pattern.Inside(x, n, 1)
		other, g := pattern.Inside(x, 0, n)
		apart, h := pattern.Disjoint(x, []int{n})
		if len(l) != 0 || is || other || apart || e != want || f != want || g != want || h != want {
			t.Fatalf("%v, %d: %v %v, %v %v, %v %v, %v %v, not %v", x, n, l, e, is, f, other, g, apart, h, want)
		}
	}
	apart, e := pattern.Disjoint(x, nil)
	s, f := pattern.Alphabet(x)
	n, g := pattern.Atoms(x)
	if apart || s != (api.Set{}) || n != 0 || e != want || f != want || g != want {
		t.Fatalf("%v: %v %v, %v %v, %d %v, not %v", x, apart, e, s, f, n, g, want)
	}
}

// checkLooks checks what is said of the nodes of a tree without an error.
func checkLooks(t *testing.T, x api.Tree) {
	t.Helper()
	if e := pattern.Check(x); e != api.OK {
		t.Fatalf("%v: %v", x, e)
	}
	want, wantErr := textOf(x)
	if s, e := pattern.Text(x); s != want || e != wantErr {
		t.Fatalf("%v: text %q %v, not %q %v", x, s, e, want, wantErr)
	}
	for _, node := range append([]int{math.MinInt, -2, -1, len(x.Nodes), len(x.Nodes) + 1, math.MaxInt}, slices.Sorted(keysOf(x.Nodes))...) {
		want, wantErr := kidsOf(x, node)
		if l, e := pattern.Kids(x, node); !slices.Equal(l, want) || e != wantErr {
			t.Fatalf("%v, %d: kids %v %v, not %v %v", x, node, l, e, want, wantErr)
		}
	}
	if s, e := pattern.Alphabet(x); s != alphabetOf(x) || e != api.OK {
		t.Fatalf("%v: alphabet %v %v", x, s, e)
	}
	if n, e := pattern.Atoms(x); n != atomsOf(x) || e != api.OK {
		t.Fatalf("%v: atoms %d %v", x, n, e)
	}
}

// keysOf goes through the numbers of a list.
func keysOf[T any](l []T) func(func(int) bool) {
	return func(yield func(int) bool) {
		for i := range l {
			if !yield(i) {
				return
			}
		}
	}
}

// groupNumbers are numbers about those of groups, and extreme ones.
func groupNumbers(x api.Tree) []int {
	l := []int{math.MinInt, math.MaxInt, -1}
	for group := range x.Groups + 2 {
		l = append(l, group)
	}
	return l
}

// checkGroups checks what is said of the groups of a tree without an error.
func checkGroups(t *testing.T, x api.Tree) {
	t.Helper()
	checkDisjoint(t, x, nil)
	for _, one := range groupNumbers(x) {
		checkDisjoint(t, x, []int{one})
		for _, two := range groupNumbers(x) {
			want, wantErr := insideOf(x, one, two)
			if is, e := pattern.Inside(x, one, two); is != want || e != wantErr {
				t.Fatalf("%v, %d, %d: %v %v, not %v %v", x, one, two, is, e, want, wantErr)
			}
			checkDisjoint(t, x, []int{one, two})
		}
	}
}

// checkDisjoint checks Disjoint against the model.
func checkDisjoint(t *testing.T, x api.Tree, groups []int) {
	t.Helper()
	kept := slices.Clone(groups)
	want, wantErr := disjointOf(x, groups)
	if is, e := pattern.Disjoint(x, groups); is != want || e != wantErr || !slices.Equal(groups, kept) {
		t.Fatalf("%v, %v: %v %v, not %v %v", x, kept, is, e, want, wantErr)
	}
}

// patterns are those of the texts that are patterns.
func patterns(l []string) []string {
	return slices.DeleteFunc(slices.Clone(l), func(s string) bool { return faultOf(s).Err != api.OK })
}

// parsed is the tree of a pattern.
func parsed(t *testing.T, s string) api.Tree {
	t.Helper()
	x, f := pattern.Parse(s)
	if f != (api.Fault{}) {
		t.Fatalf("%.100q: %v", s, f)
	}
	return x
}

// P19.1

func TestShortTexts(t *testing.T) {
	for _, c := range []struct {
		begin, alphabet string
		most            int
	}{
		{"", "a|()?*", 5},
		{"", "^$a(|)*", 4},
		{"", `[]^-a\dz`, 4},
		{"[", `]^-a\dw`, 4},
		{"[^", `]^-\a` + "\x00\xff", 4},
		{"(", "a)?+|$", 4},
		{"", `a.*+?()|^$[]-\d` + "\xff", 3},
	} {
		for _, s := range shortTexts(bytesOf(c.alphabet), c.most) {
			check(t, c.begin+s)
		}
	}
	for _, s := range shortTexts([]string{"a", `\d`, "[a-c]", "[z-a]", `[z-\a]`, "[^\x00-\xff]", "(b", ")", ")?", "|", "*", "^", "$", "[", "]", `\`}, 4) {
		check(t, s)
	}
}

func TestEveryByte(t *testing.T) {
	forms := []string{"#", "a#", "#a", "##", "(#", "(#)", "()#", "()?#", "a*#", "a+#", "a?#", "|#", "^#", "#$", "^#$", `\#`, `\#*`, `\d#`, `a\#b`, `\\#`,
		"[#", "[#]", "[^#", "[^#]", "[a#]", "[^^#]", "[#a]", "[##]", "[#-z]", "[#-\x00]", "[#-#]", "[a-#", "[a-#]", "[^a-#]", "[a-b#]", "[a-b#c]", "[a#-z]", "[a-#-]",
		`[\#`, `[\#]`, `[^\#]`, `[\##]`, `[\#-z]`, `[a-\#`, `[a-\#]`, `[^a-\#]`, `[\#-\#]`, `[\d#]`, `[\w#]`, `[#\d]`, `[a-b\#]`, "[a]#", "[a]#*", "[#*]", "[#$", "[a$#"}
	for b := range 256 {
		for _, form := range forms {
			check(t, strings.ReplaceAll(form, "#", string([]byte{byte(b)})))
		}
	}
}

// inClass is how a byte is written in a class, with a backslash if it may have one and isEscaped is set.
func inClass(b int, isEscaped bool) string {
	s := string([]byte{byte(b)})
	if strings.Contains(`]-\`, s) || isEscaped && s != "d" && s != "w" {
		return `\` + s
	}
	return s
}

func TestEveryRange(t *testing.T) {
	for low := range 256 {
		for high := range 256 {
			isEscaped := (low+high)%2 == 0
			first, second := inClass(low, isEscaped), inClass(high, !isEscaped)
			s := "[" + first + "-" + second + "]"
			if low == '^' && first == "^" {
				s = "[a" + s[1:]
			}
			want, e := byteset.Ranges(api.Range{Low: byte(low), High: byte(high)})
			x, f := pattern.Parse(s)
			switch {
			case e != api.OK:
				if f != (api.Fault{Err: api.ErrOrder, At: strings.LastIndex(s, second+"]")}) || len(x.Nodes) != 0 {
					t.Fatalf("%q: %v %v", s, f, x)
				}
			case strings.HasPrefix(s, "[a^"):
				want = byteset.Union(want, byteset.Of('a'))
				fallthrough
			default:
				if f != (api.Fault{}) || len(x.Nodes) != 3 || x.Nodes[2] != (api.Node{Kind: api.Atom, Set: want, First: -1, Next: -1}) {
					t.Fatalf("%q: %v %v", s, f, x)
				}
			}
		}
	}
}

func TestChanges(t *testing.T) {
	for _, s := range []string{`^/(a|b+)?c$`, `[^a-c\d\]][z]*|(x(.)?)`, `\w\.(()|[\^-b])`, "^$"} {
		for i := range len(s) {
			check(t, s[:i])
			check(t, s[i:])
			check(t, s[:i]+s[i+1:])
			check(t, s[:i]+s[i:i+1]+s[i:])
			for _, one := range bytesOf(`^$.*+?()[]|\-adwz0` + "\x00\xff") {
				check(t, s[:i]+one+s[i+1:])
				check(t, s[:i]+one+s[i:])
			}
		}
	}
}

func TestSamples(t *testing.T) {
	l := samples(6000, 19)
	good := patterns(l)
	if len(good) < 2000 || len(good) > 5500 {
		t.Fatal(len(good))
	}
	for _, s := range l {
		check(t, s)
	}
}

func TestLengths(t *testing.T) {
	for _, piece := range []string{"a", "|", "(", "()", ")", `\`, "[", "*", "a*", "^", "$", "[a]", "\xff", "[^\x00-\xff]", "[z-a]", "é"} {
		for n := 60; n <= 68; n++ {
			text := strings.Repeat(piece, n)
			for _, s := range []string{text[:n], text[:n-1] + "$", text[:n-1] + "a", "^" + text[:n-1], "^" + text[:n-2] + "$", "*" + text[:n-1], "[" + text[:n-2] + "]"} {
				check(t, s)
			}
		}
		for _, long := range []string{strings.Repeat(piece, 1<<20), "*" + strings.Repeat(piece, 1<<20)} {
			checkParse(t, long)
		}
	}
}

func TestManyGroups(t *testing.T) {
	for n := 7; n <= 12; n++ {
		for _, s := range []string{strings.Repeat("(", n) + strings.Repeat(")", n), strings.Repeat("()", n), strings.Repeat("(|", n) + strings.Repeat(")?", n), strings.Repeat("()|", n), strings.Repeat("((a)", n/2) + strings.Repeat(")", n/2) + strings.Repeat("(", n%2) + strings.Repeat(")", n%2), strings.Repeat("(", n), strings.Repeat("()", n) + "*"} {
			check(t, s)
			check(t, `[(]\(`+s)
			check(t, s+`[(]\(`)
			check(t, s+"(")
			check(t, s+"[z-a]")
			check(t, "^"+s+"$")
		}
	}
}

func TestFaults(t *testing.T) {
	ten := strings.Repeat("()", 9) + "("
	for _, c := range []struct {
		s  string
		e  api.Errno
		at int
	}{
		{"*", api.ErrForm, 0},
		{"a**", api.ErrForm, 2},
		{"(a)*", api.ErrForm, 3},
		{"(a)+", api.ErrForm, 3},
		{"(a", api.ErrForm, 2},
		{"a)", api.ErrForm, 1},
		{"a^", api.ErrForm, 1},
		{"$a", api.ErrForm, 0},
		{"a$b$", api.ErrForm, 1},
		{"$$", api.ErrForm, 0},
		{"(a$", api.ErrForm, 2},
		{"(a$)", api.ErrForm, 2},
		{"($", api.ErrForm, 1},
		{"a$*", api.ErrForm, 1},
		{"^*", api.ErrForm, 1},
		{"(^", api.ErrForm, 1},
		{"a|*", api.ErrForm, 2},
		{"|^", api.ErrForm, 1},
		{"]", api.ErrForm, 0},
		{"()?*", api.ErrForm, 3},
		{"()*", api.ErrForm, 2},
		{`\`, api.ErrForm, 1},
		{`a\`, api.ErrForm, 2},
		{"[]", api.ErrForm, 1},
		{"[]-]", api.ErrForm, 1},
		{"[^]", api.ErrForm, 2},
		{"[", api.ErrForm, 1},
		{"[^", api.ErrForm, 2},
		{"[a$", api.ErrForm, 3},
		{"[a-", api.ErrForm, 3},
		{`[a-\`, api.ErrForm, 4},
		{"[a-]", api.ErrForm, 3},
		{"[-", api.ErrForm, 1},
		{"[^-a]", api.ErrForm, 2},
		{"[z-a]", api.ErrOrder, 3},
		{"[z-a", api.ErrOrder, 3},
		{`[z-\a]`, api.ErrOrder, 3},
		{`[z-\`, api.ErrForm, 4},
		{`[z-\d]`, api.ErrForm, 4},
		{`[a-\d]`, api.ErrForm, 4},
		{`[\d-z]`, api.ErrForm, 3},
		{`[a-\w]`, api.ErrForm, 4},
		{`[\w-z]`, api.ErrForm, 3},
		{"[a-b-c]", api.ErrForm, 4},
		{"[^\x00-\xff]", api.ErrForm, 5},
		{"[^\x00-\xff", api.ErrForm, 5},
		{"[^\x00-\xffa]*", api.ErrForm, 6},
		{`[^\w` + "\x00-/:-\xff]", api.ErrForm, 10},
		{ten, api.ErrGroup, 18},
		{ten + "*", api.ErrGroup, 18},
		{"*" + ten, api.ErrForm, 0},
		{"[z-a]" + ten, api.ErrOrder, 3},
		{ten + "[z-a]", api.ErrGroup, 18},
		{ten[:18] + "[z-a](", api.ErrOrder, 21},
		{strings.Repeat("(", 10), api.ErrGroup, 9},
		{strings.Repeat("(", 9), api.ErrForm, 9},
		{"[z-a]*" + "]", api.ErrOrder, 3},
		{"][z-a]", api.ErrForm, 0},
		{strings.Repeat("*", 65), api.ErrLong, 64},
		{strings.Repeat("(", 65), api.ErrLong, 64},
		{strings.Repeat("*", 64), api.ErrForm, 0},
		{strings.Repeat("a", 63) + "[", api.ErrForm, 64},
	} {
		if x, f := pattern.Parse(c.s); f != (api.Fault{Err: c.e, At: c.at}) || !isSame(x, api.Tree{}) {
			t.Errorf("%q: %v %v", c.s, f, x)
		}
		checkParse(t, c.s)
	}
}

// Each fault meets each other one here, with patterns before, between and behind them.
func TestFirstFault(t *testing.T) {
	seen := map[api.Errno]int{}
	faults := []string{"*", "^", "$a", "a)", "]", "[]", "[z-a]", `[z-\.]`, `[a-\d]`, "[^\x00-\xff]", "(a$", "((((((((((", "()()()()()()()()()()", "[a", `\`, "("}
	for _, before := range []string{"", "a", "^", "(b|", "[c]*"} {
		for _, one := range faults {
			for _, between := range []string{"", "a", ")", "]"} {
				for _, two := range append(faults, strings.Repeat("a", 64)) {
					s := before + one + between + two
					check(t, s)
					seen[faultOf(s).Err]++
				}
			}
		}
	}
	for _, e := range []api.Errno{api.ErrForm, api.ErrOrder, api.ErrGroup, api.ErrLong} {
		if seen[e] < 50 {
			t.Error(e, seen[e])
		}
	}
}

func TestExamples(t *testing.T) {
	for s, want := range map[string]api.Tree{
		"a":          {Nodes: []api.Node{{Kind: 3, First: 1, Next: -1}, {Kind: 2, First: 2, Next: -1}, {Kind: 1, Set: byteset.Of('a'), First: -1, Next: -1}}},
		"":           {Nodes: []api.Node{{Kind: 3, First: 1, Next: -1}, {Kind: 2, First: -1, Next: -1}}},
		"^$":         {Nodes: []api.Node{{Kind: 3, First: 1, Next: -1}, {Kind: 2, First: -1, Next: -1}}, Begin: true, End: true},
		"^/(a|b+)?c": {Nodes: []api.Node{{Kind: 3, First: 1, Next: -1}, {Kind: 2, First: 2, Next: -1}, {Kind: 1, Set: byteset.Of('/'), First: -1, Next: 3}, {Kind: 4, Times: 3, Group: 1, First: 4, Next: 9}, {Kind: 3, First: 5, Next: -1}, {Kind: 2, First: 6, Next: 7}, {Kind: 1, Set: byteset.Of('a'), First: -1, Next: -1}, {Kind: 2, First: 8, Next: -1}, {Kind: 1, Times: 2, Set: byteset.Of('b'), First: -1, Next: -1}, {Kind: 1, Set: byteset.Of('c'), First: -1, Next: -1}}, Begin: true, Groups: 1},
	} {
		if x := parsed(t, s); !isSame(x, want) || !isSame(treeOf(s), want) {
			t.Errorf("%q: %v", s, x)
		}
	}
	for s, want := range map[string]string{"[cab]": "[a-c]", `\d`: "[0-9]", "[^a]": "[\x00-`b-\xff]", `\.`: `\.`, `\w`: "[0-9A-Z_a-z]", "[ab]": "[ab]", "[ca]": "[ac]", "[\x00-\xff]": ".", "[a]": "a", `\n`: "n", "[d]": "d", `[\d\w]`: "[0-9A-Z_a-z]", `[\^-a]`: "[\\^-a]", "[[-a]": `[[-a]`, `[\]-_]`: `[\]-_]`, `[+-\-]`: `[+-\-]`, `[\--/]`: `[\--/]`, `[Z-\\]`: `[Z-\\]`, `[\\\]]`: `[\\\]]`, `[,\-]`: `[,\-]`, "[$.*+?(){|]": "[$(-+.?{|]"} {
		if text, e := pattern.Text(parsed(t, s)); text != want || e != api.OK {
			t.Errorf("%q: %q %v", s, text, e)
		}
	}
	x := parsed(t, "^/(a(b))(c)")
	for _, c := range []struct {
		outer, inner int
		is           bool
	}{{1, 2, true}, {2, 1, false}, {1, 1, true}, {0, 3, true}, {3, 1, false}} {
		if is, e := pattern.Inside(x, c.outer, c.inner); is != c.is || e != api.OK {
			t.Error(c, is, e)
		}
	}
	for _, c := range []struct {
		groups []int
		is     bool
	}{{[]int{1, 3}, true}, {[]int{1, 2}, false}, {[]int{0}, true}, {nil, true}, {[]int{2, 3}, true}, {[]int{3, 1, 2}, false}, {[]int{0, 1}, false}, {[]int{0, 0}, false}, {[]int{2, 2}, false}} {
		if is, e := pattern.Disjoint(x, c.groups); is != c.is || e != api.OK {
			t.Error(c, is, e)
		}
	}
}

// P19.2

// flatTree is a tree with so many atoms in one sequence, and groups behind them.
func flatTree(atoms, groups int) api.Tree {
	items := []item{{0, api.Node{Kind: 3}}, {1, api.Node{Kind: 2}}}
	for range atoms {
		items = append(items, item{2, api.Node{Kind: 1, Set: byteset.Of('a')}})
	}
	for i := range groups {
		items = append(items, item{2, api.Node{Kind: 4, Group: i + 1}}, item{3, api.Node{Kind: 3}}, item{4, api.Node{Kind: 2}})
	}
	return api.Tree{Nodes: linked(items), Groups: groups}
}

func TestManyNodes(t *testing.T) {
	for atoms := 170; atoms <= 205; atoms++ {
		for _, groups := range []int{0, 1, 8, 9, 10, 11} {
			x := flatTree(atoms, groups)
			checkTree(t, x)
			x.Groups++
			checkTree(t, x)
			x.Nodes[1].Times = 1
			checkTree(t, x)
		}
	}
	for _, x := range []api.Tree{{}, {Nodes: []api.Node{}}, {Nodes: make([]api.Node, 200)}, {Nodes: make([]api.Node, 201)}, {Nodes: make([]api.Node, 1<<20), Groups: 10}} {
		checkTree(t, x)
	}
	for n, want := range map[int]api.Errno{198: api.OK, 199: api.ErrFull} {
		if e := pattern.Check(flatTree(n, 0)); e != want {
			t.Error(n, e)
		}
	}
	for n, want := range map[int]api.Errno{9: api.OK, 10: api.ErrGroup} {
		if e := pattern.Check(flatTree(0, n)); e != want {
			t.Error(n, e)
		}
	}
}

// deepTree is a tree with so many groups in each other.
func deepTree(groups int) api.Tree {
	items := []item{{0, api.Node{Kind: 3}}, {1, api.Node{Kind: 2}}}
	for i := range groups {
		items = append(items, item{3*i + 2, api.Node{Kind: 4, Group: i + 1}}, item{3*i + 3, api.Node{Kind: 3}}, item{3*i + 4, api.Node{Kind: 2}})
	}
	return api.Tree{Nodes: linked(items), Groups: groups}
}

func TestDeep(t *testing.T) {
	for groups := range 70 {
		checkTree(t, deepTree(groups))
	}
}

// nodeChanges are changes of a node that make most trees wrong.
func nodeChanges(count int) []func(n *api.Node) {
	var l []func(n *api.Node)
	for _, number := range append([]int{math.MinInt, math.MaxInt, -2, -1, 5, 9, 10}, slices.Sorted(keysOf(make([]int, min(count, 20)+2)))...) {
		l = append(l, func(n *api.Node) { n.First = number - 1 }, func(n *api.Node) { n.Next = number - 1 })
		if number <= 6 || number > 100 {
			l = append(l, func(n *api.Node) { n.Kind = number }, func(n *api.Node) { n.Times = number }, func(n *api.Node) { n.Times = number - 2 }, func(n *api.Node) { n.Group = number })
		}
	}
	for i := range 4 {
		l = append(l, func(n *api.Node) { n.Set = api.Set{} }, func(n *api.Node) { n.Set = api.Set{}; n.Set[i] = 1 }, func(n *api.Node) { n.Set[i] |= 1 << 63 })
	}
	return append(l, func(n *api.Node) { *n = api.Node{} }, func(n *api.Node) { *n = api.Node{First: -1, Next: -1} })
}

func TestChangedNodes(t *testing.T) {
	seen := map[api.Errno]int{}
	for _, s := range []string{"", "a", "|", "()", "^/(a|b+)?c", "(a)(b(c)?)d", "((|))?$", "a*(b?)|[^c]", "ab"} {
		x := treeOf(s)
		for _, change := range nodeChanges(len(x.Nodes)) {
			for i := range x.Nodes {
				other := copyOf(x)
				change(&other.Nodes[i])
				checkTree(t, other)
				seen[checkOf(other)]++
			}
		}
		for _, groups := range []int{math.MinInt, -1, 0, 1, 2, 3, 9, 10, 11, math.MaxInt} {
			other := copyOf(x)
			other.Groups = groups
			checkTree(t, other)
			seen[checkOf(other)]++
		}
		for i := range x.Nodes {
			other := copyOf(x)
			other.Nodes = slices.Delete(other.Nodes, i, i+1)
			checkTree(t, other)
			other = copyOf(x)
			other.Nodes = append(other.Nodes, x.Nodes[i])
			checkTree(t, other)
			checkTree(t, api.Tree{Nodes: slices.Clone(x.Nodes[i:])})
			for j := range x.Nodes {
				other = copyOf(x)
				other.Nodes[i], other.Nodes[j] = other.Nodes[j], other.Nodes[i]
				checkTree(t, other)
			}
		}
	}
	for _, e := range []api.Errno{api.OK, api.ErrForm, api.ErrGroup} {
		if seen[e] < 50 {
			t.Error(e, seen[e])
		}
	}
}

// Lists of a few nodes, with places of all kinds: circles, nodes with two parents, and nodes with none are among them.
func TestFewNodes(t *testing.T) {
	kinds := []api.Node{{Kind: 1, Set: api.Set{1}}, {Kind: 2}, {Kind: 3}, {Kind: 4, Group: 1}}
	good := 0
	for _, places := range [][]int{{-1, 0, 1}, {-1, 0, 1, 2}, {-1, 1, 2, 3}} {
		var all []api.Node
		for _, n := range kinds {
			for _, n.First = range places {
				for _, n.Next = range places {
					all = append(all, n)
				}
			}
		}
		lists := [][]api.Node{nil}
		for range min(len(places)-1, 3) {
			var longer [][]api.Node
			for _, l := range lists {
				for _, n := range all {
					longer = append(longer, append(slices.Clone(l), n))
				}
			}
			lists = longer
			for _, l := range lists {
				x := api.Tree{Nodes: l, Groups: len(groupsOf(l))}
				want := checkOf(x)
				if e := pattern.Check(x); e != want {
					t.Fatalf("%v: %v, not %v", x, e, want)
				}
				if want == api.OK {
					good++
				}
			}
		}
	}
	if good < 4 {
		t.Error(good)
	}
}

// Two things are wrong at once: where the first one is found, the second one does not matter.
func TestTwoChanges(t *testing.T) {
	r := rand.New(rand.NewSource(12))
	for _, s := range []string{"(a)", "^/(a|b+)?c", "(a)(b(c)?)d", "((|))?$", "a*(b?)|[^c]", "ab"} {
		x := treeOf(s)
		changes := nodeChanges(len(x.Nodes))
		for range 20000 {
			other := copyOf(x)
			i := r.Intn(len(x.Nodes))
			for _, at := range []int{i, max(i-r.Intn(4), 0)} {
				changes[r.Intn(len(changes))](&other.Nodes[at])
			}
			if e := pattern.Check(other); e != checkOf(other) {
				t.Fatalf("%v: %v, not %v", other, e, checkOf(other))
			}
		}
	}
}

// shapes are the depths of the nodes of all trees of at most most nodes.
func shapes(most int) [][]int {
	l, from := [][]int{{0}}, 0
	for range most - 1 {
		longest := l[from:]
		from = len(l)
		for _, depths := range longest {
			for depth := 1; depth <= depths[len(depths)-1]+1; depth++ {
				l = append(l, append(slices.Clone(depths), depth))
			}
		}
	}
	return l
}

// All trees of a few nodes, with nodes of all kinds everywhere: most have children that they may not have, or lack some.
func TestFewKinds(t *testing.T) {
	seen := map[api.Errno]int{}
	for _, depths := range shapes(6) {
		for _, kinds := range shortTexts(bytesOf("\x01\x02\x03\x04"), len(depths)) {
			if len(kinds) != len(depths) {
				continue
			}
			x := api.Tree{}
			var items []item
			for i, depth := range depths {
				n := api.Node{Kind: int(kinds[i])}
				switch n.Kind {
				case 1:
					n.Set = api.Set{0, 2}
				case 4:
					x.Groups++
					n.Group = x.Groups
				}
				items = append(items, item{depth, n})
			}
			x.Nodes = linked(items)
			want := checkOf(x)
			if e := pattern.Check(x); e != want {
				t.Fatalf("%v: %v, not %v", x, e, want)
			}
			seen[want]++
		}
	}
	if seen[api.OK] < 10 || seen[api.ErrForm] < 50000 {
		t.Error(seen)
	}
}

// Places of larger trees are mixed up at random: some stay sound.
func TestMixedPlaces(t *testing.T) {
	r := rand.New(rand.NewSource(2))
	seen := map[api.Errno]int{}
	for _, s := range patterns(samples(3000, 23)) {
		x := treeOf(s)
		for range 1 + r.Intn(2) {
			i, j := r.Intn(len(x.Nodes)), r.Intn(len(x.Nodes))
			switch r.Intn(4) {
			case 0:
				x.Nodes[i].First, x.Nodes[j].First = x.Nodes[j].First, x.Nodes[i].First
			case 1:
				x.Nodes[i].Next, x.Nodes[j].Next = x.Nodes[j].Next, x.Nodes[i].Next
			case 2:
				group := r.Intn(x.Groups + 1)
				at := slices.IndexFunc(x.Nodes, func(n api.Node) bool { return n.Group == group })
				x.Nodes[max(at, 0)].Group += r.Intn(3) - 1
			default:
				x.Nodes[i], x.Nodes[j] = x.Nodes[j], x.Nodes[i]
			}
		}
		checkTree(t, x)
		seen[checkOf(x)]++
	}
	for _, e := range []api.Errno{api.OK, api.ErrForm, api.ErrGroup} {
		if seen[e] < 20 {
			t.Error(e, seen[e])
		}
	}
}

// P19.3 and P19.4

func TestGrownTrees(t *testing.T) {
	seen := map[string]int{}
	for _, x := range grownTrees(4000, 4) {
		checkTree(t, x)
		_, e := textOf(x)
		seen[e.Error()]++
	}
	for _, name := range []string{"ok", "long", "full", "group"} {
		if seen[name] < 20 {
			t.Error(name, seen[name])
		}
	}
}

// oneAtom is a tree with one atom.
func oneAtom(s api.Set, times int) api.Tree {
	return api.Tree{Nodes: linked([]item{{0, api.Node{Kind: 3}}, {1, api.Node{Kind: 2}}, {2, api.Node{Kind: 1, Set: s, Times: times}}})}
}

func TestSets(t *testing.T) {
	for _, s := range someSets() {
		for times := range 4 {
			checkTree(t, oneAtom(s, times))
		}
	}
}

// Texts about as long as MaxPattern: atoms alone, and with what stands before and behind them.
func TestLongTexts(t *testing.T) {
	for atoms := 55; atoms <= 70; atoms++ {
		for groups := range 4 {
			for flags := range 4 {
				x := flatTree(atoms, groups)
				x.Begin, x.End = flags&1 == 1, flags&2 == 2
				checkTree(t, x)
				x.Nodes[2].Times = api.Star
				checkTree(t, x)
			}
		}
	}
	for n, want := range map[int]api.Errno{64: api.OK, 65: api.ErrLong} {
		if _, e := pattern.Text(flatTree(n, 0)); e != want {
			t.Error(n, e)
		}
	}
}

func TestDisjoint(t *testing.T) {
	for _, s := range []string{"", "a", "(a)", "(a(b))", "(a)(b)", "(a(b))(c)", "((a)(b))", "(a)|((b)|(c))", "(((a)))"} {
		x := treeOf(s)
		var numbers []string
		for group := range x.Groups + 3 {
			numbers = append(numbers, string([]byte{byte(group)}))
		}
		for _, text := range shortTexts(numbers, 4) {
			var groups []int
			for i := range len(text) {
				groups = append(groups, int(text[i])-1)
			}
			checkDisjoint(t, x, groups)
		}
	}
	nine := treeOf("(a)(b)(c)(d)(e)(f)(g)(h)(i)")
	order := []int{9, 8, 7, 6, 5, 4, 3, 2, 1}
	for i := range order {
		checkDisjoint(t, nine, order[i:])
		checkDisjoint(t, nine, append(order[:i:i], 0))
		checkDisjoint(t, nine, append(order[:i:i], 10))
		checkDisjoint(t, nine, append(order[:i+1:i+1], 9))
	}
}

func TestManyElements(t *testing.T) {
	x := treeOf("(a)(b(c))")
	long := slices.Repeat([]int{3, 1}, 1<<20)
	for _, c := range []struct {
		last int
		is   bool
		e    api.Errno
	}{{1, false, api.OK}, {4, false, api.ErrRange}, {-1, false, api.ErrRange}} {
		if is, e := pattern.Disjoint(x, append(long, c.last)); is != c.is || e != c.e {
			t.Error(c, is, e)
		}
	}
}

// P19.5

func TestParseOfText(t *testing.T) {
	read := func(x api.Tree) bool {
		text, e := pattern.Text(x)
		if e != api.OK {
			return false
		}
		y, f := pattern.Parse(text)
		again, g := pattern.Text(y)
		if f != (api.Fault{}) || !isSame(x, y) || again != text || g != api.OK {
			t.Fatalf("%v: %q, %v %v, %q %v", x, text, f, y, again, g)
		}
		return true
	}
	count := 0
	for _, s := range append(samples(6000, 5), shortTexts([]string{"a", `\d`, "[^b]", "(", ")", ")?", "|", "*", "^", "$"}, 5)...) {
		x, f := pattern.Parse(s)
		if f.Err != api.OK {
			continue
		}
		if e := pattern.Check(x); e != api.OK {
			t.Fatalf("%q: %v", s, e)
		}
		if read(x) {
			count++
		}
	}
	for _, x := range grownTrees(4000, 7) {
		if read(x) {
			count++
		}
	}
	for _, s := range someSets() {
		for times := range 4 {
			if read(oneAtom(s, times)) {
				count++
			}
		}
	}
	if count < 15000 {
		t.Error(count)
	}
}

// P19.6

func TestAllKids(t *testing.T) {
	for _, x := range append(grownTrees(2000, 6), treesOf(patterns(samples(3000, 6)))...) {
		if pattern.Check(x) != api.OK {
			continue
		}
		all := []int{0}
		for node := range x.Nodes {
			l, e := pattern.Kids(x, node)
			if e != api.OK {
				t.Fatalf("%v, %d: %v", x, node, e)
			}
			all = append(all, l...)
		}
		slices.Sort(all)
		if !slices.Equal(all, slices.Sorted(keysOf(x.Nodes))) {
			t.Fatalf("%v: %v", x, all)
		}
	}
}

// treesOf are the trees of patterns.
func treesOf(l []string) []api.Tree {
	var trees []api.Tree
	for _, s := range l {
		trees = append(trees, treeOf(s))
	}
	return trees
}

// P19.7

func TestOrderOfGroups(t *testing.T) {
	nested := 0
	for _, x := range append(grownTrees(3000, 8), treesOf(patterns(samples(3000, 8)))...) {
		if pattern.Check(x) != api.OK {
			continue
		}
		inside := func(a, b int) bool {
			is, e := pattern.Inside(x, a, b)
			if e != api.OK {
				t.Fatalf("%v, %d, %d: %v", x, a, b, e)
			}
			return is
		}
		for a := 1; a <= x.Groups; a++ {
			if !inside(a, a) || !inside(0, a) {
				t.Fatalf("%v, %d", x, a)
			}
			for b := 1; b <= x.Groups; b++ {
				apart, e := pattern.Disjoint(x, []int{a, b})
				if e != api.OK || apart == (inside(a, b) || inside(b, a)) || a != b && inside(a, b) && inside(b, a) {
					t.Fatalf("%v, %d, %d: %v %v", x, a, b, apart, e)
				}
				for c := 1; c <= x.Groups; c++ {
					if inside(a, b) && inside(b, c) && !inside(a, c) {
						t.Fatalf("%v, %d, %d, %d", x, a, b, c)
					}
					if a != b && b != c && inside(a, b) && inside(b, c) {
						nested++
					}
				}
			}
		}
	}
	if nested < 100 {
		t.Error(nested)
	}
}

// P19.8

func TestParentheses(t *testing.T) {
	count, tooMany := 0, 0
	for _, s := range append(patterns(samples(8000, 9)), patterns([]string{"", "|", "()", strings.Repeat("(a)", 8), strings.Repeat("(a)", 9), strings.Repeat("a", 62), strings.Repeat("a", 63)})...) {
		x := parsed(t, s)
		if x.Begin || x.End {
			continue
		}
		y, f := pattern.Parse("(" + s + ")")
		switch {
		case len(s) > 62:
			if f != (api.Fault{Err: api.ErrLong, At: 64}) {
				t.Fatalf("%q: %v", s, f)
			}
			continue
		case x.Groups == 9:
			tooMany++
			if f.Err != api.ErrGroup {
				t.Fatalf("%q: %v", s, f)
			}
			continue
		}
		want := []api.Node{{Kind: api.Choice, First: 1, Next: -1}, {Kind: api.Sequence, First: 2, Next: -1}, {Kind: api.Paren, Group: 1, First: 3, Next: -1}}
		for _, n := range x.Nodes {
			if n.Kind == api.Paren {
				n.Group++
			}
			if n.First != -1 {
				n.First += 3
			}
			if n.Next != -1 {
				n.Next += 3
			}
			want = append(want, n)
		}
		if f != (api.Fault{}) || !isSame(y, api.Tree{Nodes: want, Groups: x.Groups + 1}) {
			t.Fatalf("%q: %v %v", s, f, y)
		}
		count++
	}
	if count < 500 || tooMany == 0 {
		t.Error(count, tooMany)
	}
}

// Results have memory of their own (R4).
func TestMemory(t *testing.T) {
	one, two := parsed(t, "^/(a|b+)?c"), parsed(t, "^/(a|b+)?c")
	one.Nodes[2] = api.Node{}
	one.Nodes = append(one.Nodes[:3], api.Node{Kind: 9})
	if !isSame(two, treeOf("^/(a|b+)?c")) {
		t.Error("a change of one tree changes another one")
	}
	l, _ := pattern.Kids(two, 1)
	l[0], l[1] = 7, 8
	again, e := pattern.Kids(two, 1)
	if !slices.Equal(again, []int{2, 3, 9}) || e != api.OK || !isSame(two, treeOf("^/(a|b+)?c")) {
		t.Error("a change of a list changes something else", again, e)
	}
}
