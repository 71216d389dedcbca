package width_test

import (
	"math"
	"math/big"
	"math/rand"
	"regexp"
	"slices"
	"strconv"
	"strings"
	"testing"
	"unicode/utf8"

	"waypost/api"
	"waypost/byteset"
	"waypost/pattern"
	"waypost/width"
)

// parsed is the tree of a pattern.
func parsed(t *testing.T, s string) api.Tree {
	t.Helper()
	x, f := pattern.Parse(s)
	if f != (api.Fault{}) {
		t.Fatalf("%q: %v", s, f)
	}
	return x
}

// name is what a failed test says of a tree.
func name(x api.Tree) string {
	if s, e := pattern.Text(x); e == api.OK {
		return strconv.Quote(s)
	}
	return "a tree of " + strconv.Itoa(len(x.Nodes)) + " nodes"
}

// copyOf is a tree with nodes of its own.
func copyOf(x api.Tree) api.Tree {
	x.Nodes = slices.Clone(x.Nodes)
	return x
}

// isSame is whether two trees are equal.
func isSame(a, b api.Tree) bool {
	return slices.Equal(a.Nodes, b.Nodes) && a.Begin == b.Begin && a.End == b.End && a.Groups == b.Groups
}

// check checks all functions against the second model, with all numbers that matter.
func check(t *testing.T, x api.Tree) {
	t.Helper()
	kept := copyOf(x)
	if e := pattern.Check(x); e != api.OK {
		checkWrong(t, x, e)
	} else {
		m := modelOf(x)
		checkRoot(t, x, m)
		checkNodes(t, x, m)
		checkGroups(t, x, m)
		for _, groups := range groupLists(x.Groups) {
			checkOutside(t, x, m, groups)
		}
		for _, n := range []int{math.MinInt, -1, 0, 1, 5, m.known(), 1001, math.MaxInt} {
			checkLengths(t, x, m, n)
		}
	}
	if !isSame(x, kept) {
		t.Fatalf("%s became %s", name(kept), name(x))
	}
}

// numbers are those about from 0 to most, and extreme ones.
func numbers(most int) []int {
	l := []int{math.MinInt, -2, -1}
	for i := range most + 1 {
		l = append(l, i)
	}
	return append(l, most+1, most+2, most+100, math.MaxInt)
}

// checkWrong checks that all functions return the error of a tree that is none, whatever the other arguments are, and nothing else.
func checkWrong(t *testing.T, x api.Tree, want api.Errno) {
	t.Helper()
	least, most, e := width.Of(x)
	n, is, f := width.Fixed(x)
	if least != 0 || most != 0 || e != want || n != 0 || is || f != want {
		t.Fatalf("%s: %d %d %v, %d %v %v, not %v", name(x), least, most, e, n, is, f, want)
	}
	for _, number := range numbers(2) {
		a, b, e := width.Node(x, number)
		c, d, f := width.Group(x, number)
		l, g := width.Lengths(x, number)
		n, h := width.Outside(x, []int{number})
		m, i := width.Outside(x, []int{number}[:0])
		if a != 0 || b != 0 || c != 0 || d != 0 || len(l) != 0 || n != 0 || m != 0 || e != want || f != want || g != want || h != want || i != want {
			t.Fatalf("%s, %d: %d %d %v, %d %d %v, %v %v, %d %v, %d %v, not %v", name(x), number, a, b, e, c, d, f, l, g, n, h, m, i, want)
		}
	}
}

// checkRoot checks Of and Fixed.
func checkRoot(t *testing.T, x api.Tree, m model) {
	t.Helper()
	least, most := ends(widthsOf(m.root, m.known()), m.known())
	if a, b, e := width.Of(x); a != least || b != most || e != api.OK {
		t.Fatalf("%s: %d %d %v, not %d %d", name(x), a, b, e, least, most)
	}
	want := 0
	if least == most {
		want = least
	}
	if n, is, e := width.Fixed(x); n != want || is != (least == most) || e != api.OK {
		t.Fatalf("%s: fixed %d %v %v, of %d %d", name(x), n, is, e, least, most)
	}
}

// checkNodes checks Node.
func checkNodes(t *testing.T, x api.Tree, m model) {
	t.Helper()
	for _, node := range numbers(len(m.all) - 1) {
		least, most, want := 0, 0, api.ErrRange
		if node >= 0 && node < len(m.all) {
			least, most = ends(widthsOf(m.all[node], m.known()), m.known())
			want = api.OK
		}
		if a, b, e := width.Node(x, node); a != least || b != most || e != want {
			t.Fatalf("%s, node %d: %d %d %v, not %d %d %v", name(x), node, a, b, e, least, most, want)
		}
	}
}

// checkGroups checks Group.
func checkGroups(t *testing.T, x api.Tree, m model) {
	t.Helper()
	for _, group := range numbers(x.Groups) {
		least, most, want := 0, 0, api.ErrGroup
		if group >= 0 && group <= x.Groups {
			least, most = ends(widthsOnce(m.groups[group], m.known()), m.known())
			want = api.OK
		}
		if a, b, e := width.Group(x, group); a != least || b != most || e != want {
			t.Fatalf("%s, group %d: %d %d %v, not %d %d %v", name(x), group, a, b, e, least, most, want)
		}
	}
}

// groupLists are lists of groups, most of them of some that there are.
func groupLists(groups int) [][]int {
	var l [][]int
	for _, one := range numbers(groups) {
		l = append(l, []int{one}, []int{one, one})
	}
	for one := -1; one <= groups+1; one++ {
		for two := -1; two <= groups+1; two++ {
			l = append(l, []int{one, two})
		}
	}
	step := 1
	if groups > 5 {
		step = 37
	}
	for bits := 0; bits < 1<<groups; bits += step {
		var some []int
		for group := 1; group <= groups; group++ {
			if bits>>(group-1)&1 == 1 {
				some = append(some, group)
			}
		}
		l = append(l, some)
		back := slices.Clone(some)
		slices.Reverse(back)
		l = append(l, back, append(back, 0), append(back, groups+1))
	}
	return append(l, []int{})
}

// checkOutside checks Outside.
func checkOutside(t *testing.T, x api.Tree, m model, groups []int) {
	t.Helper()
	kept := slices.Clone(groups)
	want, wantErr := m.outside(groups)
	if n, e := width.Outside(x, groups); n != want || e != wantErr || !slices.Equal(groups, kept) {
		t.Fatalf("%s, outside of %v: %d %v, not %d %v", name(x), kept, n, e, want, wantErr)
	}
}

// checkLengths checks Lengths.
func checkLengths(t *testing.T, x api.Tree, m model, n int) {
	t.Helper()
	want, wantErr := m.lengths(n)
	if l, e := width.Lengths(x, n); !slices.Equal(l, want) || e != wantErr {
		t.Fatalf("%s, lengths up to %d: %v %v, not %v %v", name(x), n, l, e, want, wantErr)
	}
}

// checkTerms checks what is said of a small sound tree against the first model.
func checkTerms(t *testing.T, x api.Tree) {
	t.Helper()
	m := modelOf(x)
	known := m.known()
	for node, p := range m.all {
		least, most := ends(waysOf(p, known).lengths(), known)
		if a, b, e := width.Node(x, node); a != least || b != most || e != api.OK {
			t.Fatalf("%s, node %d: %d %d %v, not %d %d", name(x), node, a, b, e, least, most)
		}
		if p.Kind != api.Paren {
			continue
		}
		least, most = ends(waysOnce(p, known).lengths(), known)
		if a, b, e := width.Group(x, p.Group); a != least || b != most || e != api.OK {
			t.Fatalf("%s, group %d: %d %d %v, not %d %d", name(x), p.Group, a, b, e, least, most)
		}
	}
	all := waysOf(m.root, known)
	for _, groups := range groupLists(x.Groups) {
		if !m.areDisjoint(groups) {
			continue
		}
		want := all.outside(groups)
		if n, e := width.Outside(x, groups); n != want || e != api.OK {
			t.Fatalf("%s, outside of %v: %d %v, not %d", name(x), groups, n, e, want)
		}
	}
	l, e := width.Lengths(x, known)
	got := new(big.Int)
	for i, is := range l {
		if is {
			got.SetBit(got, i, 1)
		}
	}
	if got.Cmp(all.lengths()) != 0 || len(l) != known+1 || e != api.OK {
		t.Fatalf("%s, lengths up to %d: %v %v", name(x), known, l, e)
	}
}

// shortPatterns are the trees of all patterns of a few pieces.
func shortPatterns() []api.Tree {
	l := treesOf(shortTexts([]string{"a", "b*", "c+", "d?", "|", "(", ")", ")?"}, 5)...)
	l = append(l, treesOf(shortTexts([]string{"a", "|", "(", ")", "?", "*", "+"}, 5)...)...)
	return append(l, treesOf(shortTexts([]string{"^", "$", ".", `\d+`, "[^a]?", "(b", ")"}, 4)...)...)
}

// P20.1 to P20.3

func TestShortPatterns(t *testing.T) {
	l := shortPatterns()
	if len(l) < 7000 {
		t.Fatal(len(l))
	}
	for _, x := range l {
		check(t, x)
		checkTerms(t, x)
	}
}

// Patterns whose groups lie in each other, beside each other, and in several sequences of a choice.
func TestGroupPatterns(t *testing.T) {
	l := treesOf(shortTexts([]string{"a", "(bb", "(c*", "|", ")", ")?"}, 6)...)
	l = append(l, treesOf("(a)(b)(c)(d)(e)(f)(g)(h)(i)", "((((((((()))))))))", "(a(b(c(d(e(f(g(h(i)))))))))", "(a)?|(bb)?|(ccc)?|(dddd)?", "(a(b)c)(d(e)?f)?g", "(a(b)|c(d))|e(f|(g)h)", "(a|(b|(c|(d))))", "(aa(bb)?(cc|d))?(e|ff)g+", "(aaa)|bb|(c(dd)?)")...)
	many := 0
	for _, x := range l {
		check(t, x)
		checkTerms(t, x)
		if x.Groups >= 3 {
			many++
		}
	}
	if len(l) < 4000 || many < 200 {
		t.Error(len(l), many)
	}
}

func TestGrownTrees(t *testing.T) {
	seen := map[api.Errno]int{}
	bounded, groups := 0, map[int]int{}
	for _, x := range grownTrees(1200, 20) {
		check(t, x)
		seen[pattern.Check(x)]++
		if _, most, e := width.Of(x); most >= 0 && e == api.OK {
			bounded++
		}
		groups[x.Groups]++
	}
	if seen[api.OK] < 900 || seen[api.ErrFull] < 20 || bounded < 300 || groups[9] < 5 {
		t.Error(seen, bounded, groups)
	}
}

func TestSmallGrownTrees(t *testing.T) {
	small := 0
	for _, x := range grownTrees(3000, 21) {
		if len(x.Nodes) > 30 || x.Groups > 4 {
			continue
		}
		checkTerms(t, x)
		small++
	}
	if small < 1500 {
		t.Error(small)
	}
}

func TestManyNodes(t *testing.T) {
	for _, atoms := range []int{0, 1, 2, 50, 98, 99, 100, 101, 195, 197, 198, 199, 200, 500} {
		for times := range 4 {
			check(t, flatTree(atoms, times, false))
			check(t, flatTree(atoms, times, true))
		}
	}
	for times, want := range [][2]int{{198, 198}, {0, -1}, {198, -1}, {0, 198}} {
		if least, most, e := width.Of(flatTree(198, times, false)); least != want[0] || most != want[1] || e != api.OK {
			t.Error(times, least, most, e)
		}
	}
	if _, _, e := width.Of(flatTree(199, 0, false)); e != api.ErrFull {
		t.Error(e)
	}
}

func TestDeepTrees(t *testing.T) {
	for groups := range 12 {
		for _, groupTimes := range []int{api.Once, api.Maybe, api.Star, api.Plus} {
			for times := range 4 {
				check(t, deepTree(groups, groupTimes, times))
			}
		}
	}
	x := deepTree(9, api.Once, api.Once)
	for group := range 10 {
		want := 2*(9-group) + 1
		if least, most, e := width.Group(x, group); least != want || most != want || e != api.OK {
			t.Error(group, least, most, e)
		}
		if n, e := width.Outside(x, []int{group}); n != 19-want || e != api.OK {
			t.Error(group, n, e)
		}
	}
}

// What is in the sets of atoms does not matter.
func TestSets(t *testing.T) {
	sets := someSets()
	for b := range 256 {
		sets = append(sets, byteset.Of(byte(b)), byteset.Not(byteset.Of(byte(b))))
	}
	for _, s := range sets {
		for times, want := range [][2]int{{1, 1}, {0, -1}, {1, -1}, {0, 1}} {
			x := flatTree(1, times, false)
			x.Nodes[2].Set = s
			check(t, x)
			if least, most, e := width.Of(x); least != want[0] || most != want[1] || e != api.OK {
				t.Error(s, times, least, most, e)
			}
		}
	}
}

// ^ and $ do not matter.
func TestAnchors(t *testing.T) {
	l := slices.Concat(treesOf("", "a", "a*b+", "(a(b|cd)?)e", "(a)|bb"), grownTrees(200, 7))
	for _, x := range l {
		x.Begin, x.End = false, false
		least, most, e := width.Of(x)
		lengths, f := width.Lengths(x, 20)
		outside, g := width.Outside(x, []int{x.Groups})
		for flags := range 4 {
			x.Begin, x.End = flags&1 == 1, flags&2 == 2
			a, b, c := width.Of(x)
			other, h := width.Lengths(x, 20)
			n, i := width.Outside(x, []int{x.Groups})
			if a != least || b != most || c != e || !slices.Equal(other, lengths) || h != f || n != outside || i != g {
				t.Fatal(name(x))
			}
		}
	}
}

func TestExamples(t *testing.T) {
	for _, c := range []struct {
		s           string
		least, most int
	}{{"abc", 3, 3}, {"a*b+", 1, -1}, {"a(b|cd)?", 1, 3}, {"^$", 0, 0}, {"a|", 0, 1}} {
		if least, most, e := width.Of(parsed(t, c.s)); least != c.least || most != c.most || e != api.OK {
			t.Error(c, least, most, e)
		}
	}
	for _, c := range []struct {
		s                  string
		group, least, most int
		e                  api.Errno
	}{{"(a(b?))c*", 2, 0, 1, api.OK}, {"(a(b?))c*", 0, 1, -1, api.OK}, {"(a(b?))c*", 3, 0, 0, api.ErrGroup}} {
		if least, most, e := width.Group(parsed(t, c.s), c.group); least != c.least || most != c.most || e != c.e {
			t.Error(c, least, most, e)
		}
	}
	for _, c := range []struct {
		s      string
		groups []int
		n      int
		e      api.Errno
	}{{"/x/(.*)/y", []int{1}, 5, api.OK}, {"/x/(.*)/y", nil, 5, api.OK}, {"/x/(.*)/y", []int{0}, 0, api.OK}, {"/x/(.*)/y", []int{1, 1}, 0, api.ErrGroup}, {"(a(b))c", []int{1}, 1, api.OK}, {"(a(b))c", []int{2}, 2, api.OK}, {"(a(b))c", []int{1, 2}, 0, api.ErrGroup}} {
		if n, e := width.Outside(parsed(t, c.s), c.groups); n != c.n || e != c.e {
			t.Error(c, n, e)
		}
	}
	if l, e := width.Lengths(parsed(t, "a(bc)?d"), 4); !slices.Equal(l, []bool{false, false, true, false, true}) || e != api.OK {
		t.Error(l, e)
	}
	if n, is, e := width.Fixed(parsed(t, "a.c")); n != 3 || !is || e != api.OK {
		t.Error(n, is, e)
	}
	if n, is, e := width.Fixed(parsed(t, "a?")); n != 0 || is || e != api.OK {
		t.Error(n, is, e)
	}
}

// The Times of a group are part of the widths of its node, and not of its own.
func TestTimesOfGroups(t *testing.T) {
	x := parsed(t, "(ab)?c(d*)?")
	for _, c := range []struct{ node, group, least, most, leastOnce, mostOnce int }{{2, 1, 0, 2, 2, 2}, {8, 2, 0, -1, 0, -1}} {
		if least, most, e := width.Node(x, c.node); least != c.least || most != c.most || e != api.OK || x.Nodes[c.node].Group != c.group {
			t.Error(c, least, most, e)
		}
		if least, most, e := width.Group(x, c.group); least != c.leastOnce || most != c.mostOnce || e != api.OK {
			t.Error(c, least, most, e)
		}
	}
}

// A group that takes no part takes nothing: what stands instead of it counts.
func TestOutside(t *testing.T) {
	for _, c := range []struct {
		s      string
		groups []int
		want   int
	}{
		{"(a)|bb", []int{1}, 0},
		{"(aaa)|bb", nil, 2},
		{"c(aaa)|bb", []int{1}, 1},
		{"(aa)?b", []int{1}, 1},
		{"(a(bc))?", []int{2}, 0},
		{"(a(bc))", []int{2}, 1},
		{"(a(bc))", []int{1}, 0},
		{"(a|bb(c))d", []int{2}, 2},
		{"(a|(c))d", []int{2}, 1},
		{"a(b)|(c)dd", []int{1, 2}, 1},
		{"a(b)|(c)dd", []int{2}, 2},
		{"(a)b(cd)e", []int{2, 1}, 2},
		{"a+(b*)c*", []int{1}, 1},
		{"(a+)b", []int{1}, 1},
		{"(a)?|b", []int{1}, 0},
		{"(a)(b)(c)(d)(e)(f)(g)(h)(i)", []int{9, 7, 5, 3, 1}, 4},
		{"", nil, 0},
		{"", []int{0}, 0},
		{"abc", []int{0}, 0},
	} {
		if n, e := width.Outside(parsed(t, c.s), c.groups); n != c.want || e != api.OK {
			t.Error(c, n, e)
		}
	}
}

func TestOutsideErrors(t *testing.T) {
	x := parsed(t, "(a(b))(c)d")
	for _, groups := range [][]int{{-1}, {4}, {1, 4}, {4, 1}, {math.MinInt}, {math.MaxInt}, {1, 1}, {2, 2}, {0, 0}, {0, 1}, {3, 0}, {1, 2}, {2, 1}, {3, 1, 2}, {1, 3, 1}, {-1, 1, 1}, slices.Repeat([]int{3, 2}, 1<<20)} {
		if n, e := width.Outside(x, groups); n != 0 || e != api.ErrGroup {
			t.Errorf("%.10v: %d %v", groups, n, e)
		}
	}
}

// Lists of widths are as long as is asked for, and begin with the same ones.
func TestLengths(t *testing.T) {
	for _, s := range []string{"", "a", "a*", "a+b", "(ab|c)?(de)?", "(aaa)?(bbbbb)?", "(a(bb)?|cccc+)d", strings.Repeat("a", 64), strings.Repeat("a?", 32)} {
		x := parsed(t, s)
		long, e := width.Lengths(x, 1000)
		if len(long) != 1001 || e != api.OK {
			t.Fatalf("%q: %v %v", s, long, e)
		}
		for n := range 1001 {
			if l, e := width.Lengths(x, n); !slices.Equal(l, long[:n+1]) || e != api.OK {
				t.Fatalf("%q, %d: %v %v", s, n, l, e)
			}
		}
		checkLengths(t, x, modelOf(x), 1000)
	}
	for times := range 4 {
		for _, x := range []api.Tree{flatTree(198, times, false), flatTree(99, times, true), deepTree(9, api.Maybe, times)} {
			for _, n := range []int{0, 1, 2, 18, 19, 20, 63, 64, 65, 197, 198, 199, 500, 999, 1000} {
				checkLengths(t, x, modelOf(x), n)
			}
		}
	}
}

// P20.1: the error of a tree comes first.

// changedTrees are trees with changes that make most of them wrong.
func changedTrees(x api.Tree) []api.Tree {
	var l []api.Tree
	changes := []func(n *api.Node){
		func(n *api.Node) { n.Set = api.Set{} }, func(n *api.Node) { n.Set[3] |= 1 }, func(n *api.Node) { *n = api.Node{} },
	}
	for _, number := range []int{math.MinInt, -1, 0, 1, 2, 3, 4, 5, 10, math.MaxInt} {
		changes = append(changes, func(n *api.Node) { n.Kind = number }, func(n *api.Node) { n.Times = number }, func(n *api.Node) { n.Group = number }, func(n *api.Node) { n.First = number }, func(n *api.Node) { n.Next = number })
		other := copyOf(x)
		other.Groups = number
		l = append(l, other)
	}
	for i := range x.Nodes {
		for _, change := range changes {
			other := copyOf(x)
			change(&other.Nodes[i])
			l = append(l, other)
		}
		l = append(l, api.Tree{Nodes: slices.Clone(x.Nodes[:i]), Groups: x.Groups})
	}
	return l
}

func TestWrongTrees(t *testing.T) {
	seen := map[api.Errno]int{}
	l := []api.Tree{{}, {Nodes: []api.Node{}}, {Groups: 1}, {Nodes: make([]api.Node, 200)}, {Nodes: make([]api.Node, 1<<20)}, flatTree(199, 0, true), deepTree(10, 0, 0)}
	for _, s := range []string{"", "a", "ab*|c", "(a)", "^(a(b)?)|c+$", "(a)|(b)", "((((((((()))))))))"} {
		l = append(l, changedTrees(parsed(t, s))...)
	}
	for _, x := range l {
		check(t, x)
		seen[pattern.Check(x)]++
	}
	for e, least := range map[api.Errno]int{api.OK: 20, api.ErrFull: 2, api.ErrForm: 500, api.ErrGroup: 50} {
		if seen[e] < least {
			t.Error(e, seen[e])
		}
	}
}

func TestNumbers(t *testing.T) {
	x := parsed(t, "(a(b)?)c")
	last := len(x.Nodes) - 1
	for _, c := range []struct {
		n                    int
		node, group, lengths api.Errno
	}{
		{math.MinInt, api.ErrRange, api.ErrGroup, api.ErrRange},
		{-1, api.ErrRange, api.ErrGroup, api.ErrRange},
		{0, api.OK, api.OK, api.OK},
		{2, api.OK, api.OK, api.OK},
		{3, api.OK, api.ErrGroup, api.OK},
		{last, api.OK, api.ErrGroup, api.OK},
		{last + 1, api.ErrRange, api.ErrGroup, api.OK},
		{1000, api.ErrRange, api.ErrGroup, api.OK},
		{1001, api.ErrRange, api.ErrGroup, api.ErrRange},
		{math.MaxInt, api.ErrRange, api.ErrGroup, api.ErrRange},
	} {
		_, _, e := width.Node(x, c.n)
		_, _, f := width.Group(x, c.n)
		l, g := width.Lengths(x, c.n)
		if e != c.node || f != c.group || g != c.lengths || g == api.OK && len(l) != c.n+1 {
			t.Error(c, e, f, g, len(l))
		}
	}
}

// P20.4 and P20.7

// expression is a regular expression for the texts of a part, with a rune for each byte.
func expression(p part) string {
	text := ""
	switch p.Kind {
	case api.Atom:
		for _, b := range byteset.List(p.Set) {
			text += `\x{` + strconv.FormatInt(int64(b), 16) + `}`
		}
		text = "[" + text + "]"
	case api.Sequence:
		for _, kid := range p.kids {
			text += expression(kid)
		}
	case api.Choice:
		var texts []string
		for _, kid := range p.kids {
			texts = append(texts, expression(kid))
		}
		text = strings.Join(texts, "|")
	case api.Paren:
		text = "(" + expression(p.kids[0]) + ")"
	}
	return text + []string{"", "*", "+", "?"}[p.Times]
}

// anchored is a regular expression for a tree.
func anchored(x api.Tree) *regexp.Regexp {
	text := "(?:" + expression(partOf(x, 0)) + ")"
	if x.Begin {
		text = `\A` + text
	}
	if x.End {
		text += `\z`
	}
	return regexp.MustCompile(text)
}

// someText is a random text of a part, with a rune for each byte.
func someText(r *rand.Rand, p part) string {
	times := []int{1, r.Intn(4), 1 + r.Intn(3), r.Intn(2)}[p.Times]
	text := ""
	for range times {
		switch p.Kind {
		case api.Atom:
			l := byteset.List(p.Set)
			text += string(rune(l[r.Intn(len(l))]))
		case api.Choice:
			text += someText(r, p.kids[r.Intn(len(p.kids))])
		default:
			for _, kid := range p.kids {
				text += someText(r, kid)
			}
		}
	}
	return text
}

// has is whether n is between the least and the greatest width.
func has(least, most, n int) bool {
	return least <= n && (n <= most || most == -1)
}

// isWidth is whether the root of a tree has this width.
func isWidth(x api.Tree, n int) bool {
	l, e := width.Lengths(x, n)
	return e == api.OK && l[n]
}

// checkMatch checks what is said of a match: spans are the places where it and its groups begin and end.
func checkMatch(t *testing.T, x api.Tree, s string, spans []int) {
	t.Helper()
	m := modelOf(x)
	size := func(group int) int {
		from, to := spans[2*group], spans[2*group+1]
		if from == -1 {
			return 0
		}
		return utf8.RuneCountInString(s[from:to])
	}
	for group := range x.Groups + 1 {
		if spans[2*group] == -1 {
			continue
		}
		alone := flat(m.root)
		if group > 0 {
			alone = flat(m.groups[group].kids[0])
		}
		if least, most, e := width.Group(x, group); !has(least, most, size(group)) || e != api.OK || !isWidth(alone, size(group)) {
			t.Fatalf("%s matches %q: group %d, %d %d %v", name(x), s, group, least, most, e)
		}
	}
	if least, most, e := width.Of(x); !has(least, most, size(0)) || e != api.OK {
		t.Fatalf("%s matches %q: %d %d %v", name(x), s, least, most, e)
	}
	for _, groups := range groupLists(x.Groups) {
		n, e := width.Outside(x, groups)
		left := size(0)
		for _, group := range groups {
			if e == api.OK {
				left -= size(group)
			}
		}
		if e == api.OK && left < n {
			t.Fatalf("%s matches %q: %d outside of %v, not %d", name(x), s, left, groups, n)
		}
	}
}

func TestMatches(t *testing.T) {
	r := rand.New(rand.NewSource(4))
	matches, taken, untaken := 0, 0, 0
	for _, x := range grownTrees(600, 44) {
		if pattern.Check(x) != api.OK || len(x.Nodes) > 60 || x.Groups > 5 {
			continue
		}
		form, root := anchored(x), partOf(x, 0)
		for range 6 {
			s := []string{"", "ab", "/", "\u00ff"}[r.Intn(4)] + someText(r, root) + []string{"", "ba", "a/", "\u0000"}[r.Intn(4)]
			for _, spans := range form.FindAllStringSubmatchIndex(s, 5) {
				checkMatch(t, x, s, spans)
				matches++
				for _, from := range spans[2:] {
					if from == -1 {
						untaken++
					} else {
						taken++
					}
				}
			}
		}
	}
	if matches < 1500 || taken < 1000 || untaken < 500 {
		t.Error(matches, taken, untaken)
	}
}

// P20.5

func TestEnds(t *testing.T) {
	bounded, endless := 0, 0
	for _, x := range slices.Concat(shortPatterns()[:4000], grownTrees(1500, 5)) {
		least, most, e := width.Of(x)
		l, f := width.Lengths(x, 1000)
		if e != f {
			t.Fatal(name(x), e, f)
		}
		if e != api.OK {
			continue
		}
		greatest := 1000
		for !l[greatest] {
			greatest--
		}
		if greatest == 1000 {
			greatest = -1
			endless++
		} else {
			bounded++
		}
		if slices.Index(l, true) != least || greatest != most {
			t.Fatalf("%s: %d %d, not %d %d", name(x), least, most, slices.Index(l, true), greatest)
		}
	}
	if bounded < 1000 || endless < 1000 {
		t.Error(bounded, endless)
	}
}

// P20.6

func TestMoreGroups(t *testing.T) {
	less := 0
	for _, x := range slices.Concat(treesOf("(a)(b)(c)(d)(e)(f)(g)(h)(i)", "(a|b(c)|(d)(ee))f(g)?"), grownTrees(1000, 6)) {
		least, _, e := width.Of(x)
		none, f := width.Outside(x, nil)
		if none != least || e != f {
			t.Fatal(name(x), none, f, least, e)
		}
		for _, groups := range groupLists(x.Groups) {
			n, e := width.Outside(x, groups)
			if e != api.OK {
				continue
			}
			for i := range groups {
				others := slices.Delete(slices.Clone(groups), i, i+1)
				more, e := width.Outside(x, others)
				if e != api.OK || n > more {
					t.Fatalf("%s: %d outside of %v, %d %v of %v", name(x), n, groups, more, e, others)
				}
				if n < more {
					less++
				}
			}
		}
	}
	if less < 500 {
		t.Error(less)
	}
}

// P20.8

func TestChildren(t *testing.T) {
	choices, sequences := 0, 0
	for _, x := range slices.Concat(shortPatterns()[:4000], grownTrees(1000, 8)) {
		if pattern.Check(x) != api.OK {
			continue
		}
		for node, n := range x.Nodes {
			kids, _ := pattern.Kids(x, node)
			least, most, _ := width.Node(x, node)
			var low, high []int
			sum := 0
			for _, kid := range kids {
				a, b, _ := width.Node(x, kid)
				low, high = append(low, a), append(high, b)
				sum += a
			}
			switch n.Kind {
			case api.Choice:
				if want := slices.Max(high); least != slices.Min(low) || slices.Contains(high, -1) && most != -1 || !slices.Contains(high, -1) && most != want {
					t.Fatalf("%s, node %d: %d %d, of %v %v", name(x), node, least, most, low, high)
				}
				choices += len(kids) - 1
			case api.Sequence:
				all := 0
				for _, b := range high {
					all += b
				}
				if slices.Contains(high, -1) {
					all = -1
				}
				if least != sum || most != all {
					t.Fatalf("%s, node %d: %d %d, of %v %v", name(x), node, least, most, low, high)
				}
				sequences += len(kids)
			}
		}
	}
	if choices < 2000 || sequences < 2000 {
		t.Error(choices, sequences)
	}
}

func TestChildrenOfPatterns(t *testing.T) {
	const n = 30
	l := []string{"", "a", "ab", "a*", "a+", "a?", "a|bcd", "(ab)?c", "(a|bb)?(cccc)?", "aaaa*", "(a(bbb)?)|", "a|bbb|ccccc", "(aaaaaaa)?"}
	for _, one := range l {
		for _, two := range l {
			first, e := width.Lengths(parsed(t, one), n)
			second, f := width.Lengths(parsed(t, two), n)
			either, g := width.Lengths(parsed(t, one+"|"+two), n)
			both, h := width.Lengths(parsed(t, "("+one+")("+two+")"), n)
			if e != api.OK || f != api.OK || g != api.OK || h != api.OK {
				t.Fatal(one, two, e, f, g, h)
			}
			for i := range n + 1 {
				isSum := false
				for j := range i + 1 {
					isSum = isSum || first[j] && second[i-j]
				}
				if either[i] != (first[i] || second[i]) || both[i] != isSum {
					t.Fatalf("%q, %q, %d: %v %v", one, two, i, either[i], both[i])
				}
			}
		}
	}
}

// Results have memory of their own (R4).
func TestMemory(t *testing.T) {
	x := parsed(t, "a(bc)?d")
	kept := copyOf(x)
	one, _ := width.Lengths(x, 4)
	one[2] = false
	_ = append(one[:0], true, true, true, true, true, true)
	two, e := width.Lengths(x, 4)
	if !slices.Equal(two, []bool{false, false, true, false, true}) || e != api.OK || !isSame(x, kept) {
		t.Error(two, e)
	}
}
