package pattern_test

import (
	"math/rand"
	"regexp"
	"slices"
	"strings"

	"waypost/api"
)

// The models follow the chapter's Terms: what is written for a set is a regular expression in them, and groups are rewritten until none is left. As expressions read runes, texts are given to them with a rune for each byte.

const (
	atomText    = `(?:[^\^$.*+?()\[\]|\\]|\.|\\.|` + classText + `)`
	classText   = `\[(?:\^(?:` + elementText + `)|` + firstText + `)(?:` + elementText + `)*\]`
	elementText = `\\[dw]|` + byteText + `-` + byteText + `|` + byteText
	byteText    = `(?:[^\]\\-]|\\[^dw])`
	// firstText is the first element of a class that has no ^ before it.
	firstText = `\\[dw]|(?:[^\^\]\\-]|\\[^dw])(?:-` + byteText + `)?`
)

var (
	pieceForm = regexp.MustCompile(`(?s)` + atomText + `[*+?]?`)
	groupForm = regexp.MustCompile(`\([p|]*\)\??`)
	// goodForm, lastForm and viableForm are what is left of patterns, of those that end with $, and of beginnings of patterns.
	goodForm   = regexp.MustCompile(`\A\^?[p|]*\$?\z`)
	lastForm   = regexp.MustCompile(`\A\^?[p|]*\$\z`)
	viableForm = regexp.MustCompile(`\A\^?[p|(]*\z`)

	wholeForm   = regexp.MustCompile(`(?s)\A(\^?)((?:` + atomText + `[*+?]?|[(|]|\)\??)*)(\$?)\z`)
	tokenForm   = regexp.MustCompile(`(?s)(` + atomText + `)([*+?]?)|[(|]|\)\??`)
	elementForm = regexp.MustCompile(`(?s)` + elementText)
)

// latin is a text with a rune for each byte of s.
func latin(s string) string {
	runes := make([]rune, len(s))
	for i := range len(s) {
		runes[i] = rune(s[i])
	}
	return string(runes)
}

// plain is the byte for which a rune or an escape in a class stands.
func plain(text string) int {
	runes := []rune(text)
	return int(runes[len(runes)-1])
}

// setOf is the set of an atom, as it is written.
func setOf(atom string) api.Set {
	if !strings.HasPrefix(atom, "[") {
		return elementSet(atom, true)
	}
	inside := atom[1 : len(atom)-1]
	elements, isOthers := strings.CutPrefix(inside, "^")
	var s api.Set
	for _, element := range elementForm.FindAllString(elements, -1) {
		for i, word := range elementSet(element, false) {
			s[i] |= word
		}
	}
	if isOthers {
		for i := range s {
			s[i] = ^s[i]
		}
	}
	return s
}

// elementSet is the set of an element of a class, or of an atom that is no class.
func elementSet(text string, isAtom bool) api.Set {
	var s api.Set
	low, high, isRange := rangeOf(text)
	for b := range 256 {
		is := b == plain(text)
		switch isDigit := b >= '0' && b <= '9'; {
		case text == "." && isAtom:
			is = true
		case text == `\d`:
			is = isDigit
		case text == `\w`:
			is = isDigit || b >= 'a' && b <= 'z' || b >= 'A' && b <= 'Z' || b == '_'
		case isRange:
			is = low <= b && b <= high
		}
		if is {
			s[b/64] |= 1 << (b % 64)
		}
	}
	return s
}

// rangeForm is a range of a class.
var rangeForm = regexp.MustCompile(`(?s)\A(` + byteText + `)-(` + byteText + `)\z`)

// rangeOf is the first and the last byte of a range.
func rangeOf(element string) (low, high int, is bool) {
	found := rangeForm.FindStringSubmatch(element)
	if found == nil {
		return 0, 0, false
	}
	return plain(found[1]), plain(found[2]), true
}

// isInOrder is whether no range of an atom, as it is written, ends before it begins.
func isInOrder(atom string) bool {
	if !strings.HasPrefix(atom, "[") {
		return true
	}
	inside := strings.TrimPrefix(atom[1:], "^")
	for _, element := range elementForm.FindAllString(inside, -1) {
		if low, high, is := rangeOf(element); is && low > high {
			return false
		}
	}
	return true
}

// reading says how beginnings of patterns are read: whether ranges have to be in order, and whether the last class may have no byte.
type reading struct {
	inOrder, lastEmpty bool
}

// left is what is left of a text if a p is written for each piece. Classes that are wrong stay.
func (r reading) left(s string) string {
	text := latin(s)
	var b strings.Builder
	from := 0
	for _, found := range pieceForm.FindAllStringIndex(text, -1) {
		atom := strings.TrimRight(text[found[0]:found[1]], "*+?")
		isClass := strings.HasPrefix(atom, "[")
		isEmpty := isClass && setOf(atom) == api.Set{} && isInOrder(atom) && !(r.lastEmpty && found[1] == len(text))
		b.WriteString(text[from:found[0]])
		if isEmpty || isClass && r.inOrder && !isInOrder(atom) {
			b.WriteString("[")
		} else {
			b.WriteString("p")
		}
		from = found[1]
	}
	return b.String() + text[from:]
}

// withoutGroups is what is left of a text without its groups.
func withoutGroups(text string) string {
	for groupForm.MatchString(text) {
		text = groupForm.ReplaceAllString(text, "p")
	}
	return text
}

// opened is how many groups begin in a string that is the beginning of a longer pattern but for their number, or -1 if it is none.
func opened(s string, inOrder bool) int {
	for _, more := range []string{"", "\xff", "\xff]", "]"} {
		r := reading{inOrder: inOrder, lastEmpty: strings.HasSuffix(more, "]")}
		if left := r.left(s + more); viableForm.MatchString(withoutGroups(left)) {
			return strings.Count(left, "(")
		}
	}
	return -1
}

// known are what opened said, as many texts begin with the same bytes.
var known = map[string]int{}

// groupsBegun is opened, asked once.
func groupsBegun(s string) int {
	n, is := known[s]
	if !is {
		n = opened(s, true)
		known[s] = n
	}
	return n
}

// faultOf is the fault of a text.
func faultOf(s string) api.Fault {
	if len(s) > 64 {
		return api.Fault{Err: api.ErrLong, At: 64}
	}
	whole := reading{inOrder: true}.left(s)
	for i := range len(s) {
		begun := s[:i+1]
		isLast := i == len(s)-1 && lastForm.MatchString(withoutGroups(whole))
		groups := groupsBegun(begun)
		switch {
		case groups > 9:
			return api.Fault{Err: api.ErrGroup, At: i}
		case groups >= 0 || isLast:
			continue
		case opened(begun, false) < 0:
			return api.Fault{Err: api.ErrForm, At: i}
		case s[i-1] == '\\':
			return api.Fault{Err: api.ErrOrder, At: i - 1}
		default:
			return api.Fault{Err: api.ErrOrder, At: i}
		}
	}
	if !goodForm.MatchString(withoutGroups(whole)) {
		return api.Fault{Err: api.ErrForm, At: len(s)}
	}
	return api.Fault{}
}

// item is a node of a tree, without its places, and how many nodes it is below.
type item struct {
	depth int
	node  api.Node
}

// treeOf is the tree of a pattern. Its nodes begin in the order of their texts; choices, sequences and pieces are by turns below each other.
func treeOf(s string) api.Tree {
	parts := wholeForm.FindStringSubmatch(latin(s))
	t := api.Tree{Begin: parts[1] != "", End: parts[3] != ""}
	items := []item{{0, api.Node{Kind: 3}}, {1, api.Node{Kind: 2}}}
	depth := 2
	for _, token := range tokenForm.FindAllStringSubmatch(parts[2], -1) {
		switch {
		case token[1] != "":
			items = append(items, item{depth, api.Node{Kind: 1, Set: setOf(token[1]), Times: slices.Index([]string{"", "*", "+", "?"}, token[2])}})
		case token[0] == "(":
			t.Groups++
			items = append(items, item{depth, api.Node{Kind: 4, Group: t.Groups}}, item{depth + 1, api.Node{Kind: 3}}, item{depth + 2, api.Node{Kind: 2}})
			depth += 3
		case token[0] == "|":
			items = append(items, item{depth - 1, api.Node{Kind: 2}})
		default:
			depth -= 3
			if token[0] == ")?" {
				items[lastAt(items, depth)].node.Times = 3
			}
		}
	}
	t.Nodes = linked(items)
	return t
}

// lastAt is the number of the last item with this depth.
func lastAt(items []item, depth int) int {
	at := len(items) - 1
	for items[at].depth != depth {
		at--
	}
	return at
}

// linked are the nodes of the items with their places: a node's first child is right behind it, and the next child of its parent is the next node that is not below it.
func linked(items []item) []api.Node {
	var nodes []api.Node
	for i, it := range items {
		n := it.node
		n.First, n.Next = -1, -1
		if i+1 < len(items) && items[i+1].depth == it.depth+1 {
			n.First = i + 1
		}
		behind := slices.IndexFunc(items[i+1:], func(other item) bool { return other.depth <= it.depth })
		if behind >= 0 && items[i+1+behind].depth == it.depth {
			n.Next = i + 1 + behind
		}
		nodes = append(nodes, n)
	}
	return nodes
}

// parentsOf are the parents of all nodes, -1 for the root, and whether each other node has just one.
func parentsOf(nodes []api.Node) ([]int, bool) {
	parents := slices.Repeat([]int{-1}, len(nodes))
	for i, n := range nodes {
		for kid := n.First; kid != -1; kid = nodes[kid].Next {
			if kid <= 0 || kid >= len(nodes) || parents[kid] != -1 {
				return nil, false
			}
			parents[kid] = i
		}
	}
	return parents, len(nodes) > 0 && !slices.Contains(parents[1:], -1)
}

// hasKinds is whether each node has what its kind says: the kinds and the number of its children, and its other parts.
func hasKinds(nodes []api.Node, parents []int) bool {
	below := map[int][]int{1: nil, 2: {1, 4}, 3: {2}, 4: {3}}
	for i, n := range nodes {
		kids := 0
		for at, parent := range parents {
			if parent != i {
				continue
			}
			kids++
			if !slices.Contains(below[n.Kind], nodes[at].Kind) {
				return false
			}
		}
		is := n.Kind >= 1 && n.Kind <= 4
		is = is && (n.Kind == 1) == (n.Set != api.Set{})
		is = is && (n.Times == 0 || n.Times == 3 && n.Kind != 2 && n.Kind != 3 || n.Kind == 1 && n.Times >= 0 && n.Times <= 3)
		is = is && (n.Group == 0 || n.Kind == 4)
		is = is && (n.Kind != 3 || kids >= 1) && (n.Kind != 4 || kids == 1)
		if !is {
			return false
		}
	}
	return nodes[0].Kind == 3 && nodes[0].Next == -1
}

// isOrdered is whether parents are before their children, and what is below a child before the next one.
func isOrdered(nodes []api.Node, parents []int) bool {
	for i := range nodes {
		for at := i; at != -1; at = parents[at] {
			if parents[at] >= at || nodes[at].Next != -1 && nodes[at].Next <= i {
				return false
			}
		}
	}
	return true
}

// groupsOf are the numbers of the groups, in the order of their nodes.
func groupsOf(nodes []api.Node) []int {
	var l []int
	for _, n := range nodes {
		if n.Kind == 4 {
			l = append(l, n.Group)
		}
	}
	return l
}

// checkOf is what Check should return.
func checkOf(t api.Tree) api.Errno {
	if len(t.Nodes) > 200 {
		return api.ErrFull
	}
	parents, is := parentsOf(t.Nodes)
	if !is || !isOrdered(t.Nodes, parents) || !hasKinds(t.Nodes, parents) {
		return api.ErrForm
	}
	groups := groupsOf(t.Nodes)
	for i, group := range groups {
		if group != i+1 {
			return api.ErrGroup
		}
	}
	if len(groups) != t.Groups || t.Groups > 9 {
		return api.ErrGroup
	}
	return api.OK
}

// ofByte is how a byte is written.
func ofByte(b int, marks string) string {
	s := string([]byte{byte(b)})
	if strings.Contains(marks, s) {
		return `\` + s
	}
	return s
}

// has is whether b is in the set.
func has(s api.Set, b int) bool {
	return b >= 0 && b < 256 && s[b/64]>>(b%64)&1 == 1
}

// setText is the text of a set.
func setText(s api.Set) string {
	text, count, only := "", 0, 0
	for b := range 256 {
		if !has(s, b) {
			continue
		}
		count, only = count+1, b
		isFirst, isLast := !has(s, b-1), !has(s, b+1)
		switch {
		case isFirst || isLast:
			text += ofByte(b, `^]-\`)
		case !has(s, b-2):
			text += "-"
		}
	}
	switch count {
	case 256:
		return "."
	case 1:
		return ofByte(only, `^$.*+?()[]|\`)
	}
	return "[" + text + "]"
}

// textOf is what Text should return: texts are made from the last node to the first one, as children are behind their parents.
func textOf(t api.Tree) (string, api.Errno) {
	if e := checkOf(t); e != api.OK {
		return "", e
	}
	texts := make([]string, len(t.Nodes))
	for i := len(t.Nodes) - 1; i >= 0; i-- {
		n := t.Nodes[i]
		between := ""
		if n.Kind == 3 {
			between = "|"
		}
		for kid := n.First; kid != -1; kid = t.Nodes[kid].Next {
			texts[i] += texts[kid]
			if t.Nodes[kid].Next != -1 {
				texts[i] += between
			}
		}
		switch n.Kind {
		case 1:
			texts[i] = setText(n.Set)
		case 4:
			texts[i] = "(" + texts[i] + ")"
		}
		texts[i] += []string{"", "*", "+", "?"}[n.Times]
	}
	text := texts[0]
	if t.Begin {
		text = "^" + text
	}
	if t.End {
		text += "$"
	}
	if len(text) > 64 {
		return "", api.ErrLong
	}
	return text, api.OK
}

// kidsOf is what Kids should return for a tree without an error.
func kidsOf(t api.Tree, node int) ([]int, api.Errno) {
	if node < 0 || node >= len(t.Nodes) {
		return nil, api.ErrRange
	}
	parents, _ := parentsOf(t.Nodes)
	var l []int
	for i, parent := range parents {
		if i > 0 && parent == node {
			l = append(l, i)
		}
	}
	return l, api.OK
}

// liesIn is whether the group inner is the group outer, or lies in it: whoever goes up from it comes to it.
func liesIn(t api.Tree, outer, inner int) bool {
	if outer == 0 || inner == 0 {
		return outer == 0
	}
	parents, _ := parentsOf(t.Nodes)
	at := slices.IndexFunc(t.Nodes, func(n api.Node) bool { return n.Group == inner })
	for at != -1 && t.Nodes[at].Group != outer {
		at = parents[at]
	}
	return at != -1
}

// insideOf is what Inside should return for a tree without an error.
func insideOf(t api.Tree, outer, inner int) (bool, api.Errno) {
	if outer < 0 || outer > t.Groups || inner < 1 || inner > t.Groups {
		return false, api.ErrRange
	}
	return liesIn(t, outer, inner), api.OK
}

// disjointOf is what Disjoint should return for a tree without an error.
func disjointOf(t api.Tree, groups []int) (bool, api.Errno) {
	for _, group := range groups {
		if group < 0 || group > t.Groups {
			return false, api.ErrRange
		}
	}
	for i := range groups {
		for j := range groups {
			if i != j && liesIn(t, groups[i], groups[j]) {
				return false, api.OK
			}
		}
	}
	return true, api.OK
}

// alphabetOf is what Alphabet should return for a tree without an error, and atomsOf what Atoms should.
func alphabetOf(t api.Tree) api.Set {
	var s api.Set
	for b := range 256 {
		if slices.ContainsFunc(t.Nodes, func(n api.Node) bool { return has(n.Set, b) }) {
			s[b/64] |= 1 << (b % 64)
		}
	}
	return s
}

func atomsOf(t api.Tree) int {
	return len(slices.DeleteFunc(slices.Clone(t.Nodes), func(n api.Node) bool { return n.Kind != 1 }))
}

// shortTexts are all strings of at most most pieces.
func shortTexts(pieces []string, most int) []string {
	l, from := []string{""}, 0
	for range most {
		longest := l[from:]
		from = len(l)
		for _, s := range longest {
			for _, piece := range pieces {
				l = append(l, s+piece)
			}
		}
	}
	return l
}

// bytesOf are the bytes of a string, as strings.
func bytesOf(s string) []string {
	var l []string
	for i := range len(s) {
		l = append(l, s[i:i+1])
	}
	return l
}

// someSets are sets of all sizes: with runs at both ends, of all lengths, and with all bytes that are marks somewhere.
func someSets() []api.Set {
	r := rand.New(rand.NewSource(3))
	var l []api.Set
	add := func(bytes ...int) {
		var s, others api.Set
		for _, b := range bytes {
			s[b/64] |= 1 << (b % 64)
		}
		for i := range s {
			others[i] = ^s[i]
		}
		l = append(l, s, others)
	}
	add()
	for b := range 256 {
		add(b)
		for n := 2; n <= 5 && b+n <= 256; n++ {
			run := make([]int, n)
			for i := range n {
				run[i] = b + i
			}
			add(run...)
			add(append(run, (b+n+1)%256)...)
			add(append(run, r.Intn(256), r.Intn(256))...)
		}
		add(b, (b+2)%256)
	}
	marks := `^$.*+?()[]|\-dw`
	for _, s := range shortTexts(bytesOf(marks), 3) {
		var bytes []int
		for i := range len(s) {
			bytes = append(bytes, int(s[i]))
		}
		add(bytes...)
	}
	for range 300 {
		l = append(l, api.Set{r.Uint64(), r.Uint64(), r.Uint64(), r.Uint64()}, api.Set{r.Uint64() & r.Uint64() & r.Uint64() & r.Uint64() & r.Uint64()})
	}
	return l
}

// grower makes random trees.
type grower struct {
	*rand.Rand
	sets   []api.Set
	items  []item
	groups int
}

// choice adds a choice with all that is below it: groups in it have at most so many groups around them.
func (g *grower) choice(depth, around, wide int) {
	g.items = append(g.items, item{depth, api.Node{Kind: 3}})
	for range 1 + g.Intn(wide)*g.Intn(2) {
		g.items = append(g.items, item{depth + 1, api.Node{Kind: 2}})
		for range g.Intn(wide + 1) {
			if around > 0 && g.Intn(3) == 0 {
				g.groups++
				g.items = append(g.items, item{depth + 2, api.Node{Kind: 4, Group: g.groups, Times: 3 * g.Intn(2)}})
				g.choice(depth+3, around-1, wide)
				continue
			}
			g.items = append(g.items, item{depth + 2, api.Node{Kind: 1, Set: g.sets[g.Intn(len(g.sets))], Times: g.Intn(4)}})
		}
	}
}

// grownTrees are random trees; some have too many nodes or groups.
func grownTrees(n int, seed int64) []api.Tree {
	var l []api.Tree
	r := rand.New(rand.NewSource(seed))
	sets := slices.DeleteFunc(someSets(), func(s api.Set) bool { return s == api.Set{} })
	for range n {
		g := grower{Rand: r, sets: sets}
		if r.Intn(2) == 0 {
			// Sets with short texts.
			g.sets = sets[:20]
		}
		g.choice(0, r.Intn(6), 1+r.Intn(5))
		l = append(l, api.Tree{Nodes: linked(g.items), Begin: r.Intn(2) == 0, End: r.Intn(2) == 0, Groups: g.groups})
	}
	return l
}

// samples are random texts, most of them patterns.
func samples(n int, seed int64) []string {
	r := rand.New(rand.NewSource(seed))
	pieces := []string{"a", "b", "/", ".", `\d`, `\w`, `\.`, `\\`, `\n`, "[ab]", "[^a]", `[\d_-z]`, "[a-c]", `[+-\-]`, "[\x00-\xff]", `[^\w]`, "\xff", "{", "-", "é", `[\]\^]`, "a*", "b+", "c?", ".*", "[^/]*", "|", "(a)", "(", ")", "(b|c)?", "()", ")?"}
	wrong := []string{"*", "+", "?", "^", "$", "[", "]", "[]", "[z-a]", `[b-\a]`, "[^\x00-\xff]", `\`, "[a-", "((((("}
	var l []string
	for range n {
		var b strings.Builder
		b.WriteString([]string{"", "^"}[r.Intn(2)])
		open := 0
		for range r.Intn(12) {
			piece := pieces[r.Intn(len(pieces))]
			if piece == "(" {
				open++
			}
			if strings.HasPrefix(piece, ")") && open == 0 {
				continue
			}
			if strings.HasPrefix(piece, ")") {
				open--
			}
			if r.Intn(30) == 0 {
				piece = wrong[r.Intn(len(wrong))]
			}
			b.WriteString(piece)
		}
		l = append(l, b.String()+strings.Repeat(")", open)+[]string{"", "$"}[r.Intn(2)])
	}
	return l
}
