package width_test

import (
	"math/big"
	"math/rand"
	"slices"
	"strings"
	"unicode/utf8"

	"waypost/api"
	"waypost/byteset"
	"waypost/pattern"
)

// part is a node with what is below it.
type part struct {
	api.Node
	kids []part
}

// partOf is a node of a sound tree as a part.
func partOf(x api.Tree, node int) part {
	p := part{Node: x.Nodes[node]}
	for kid := p.First; kid != -1; kid = x.Nodes[kid].Next {
		p.kids = append(p.kids, partOf(x, kid))
	}
	return p
}

// allOf are a part and all parts below it, in the order of nodes.
func allOf(p part) []part {
	l := []part{p}
	for _, kid := range p.kids {
		l = append(l, allOf(kid)...)
	}
	return l
}

// flat is the tree with a part as its root: places and groups get their numbers.
func flat(p part) api.Tree {
	var x api.Tree
	var add func(p part) int
	add = func(p part) int {
		at := len(x.Nodes)
		p.First, p.Next = -1, -1
		if p.Kind == api.Paren {
			x.Groups++
			p.Group = x.Groups
		}
		x.Nodes = append(x.Nodes, p.Node)
		last := -1
		for _, kid := range p.kids {
			number := add(kid)
			if last == -1 {
				x.Nodes[at].First = number
			} else {
				x.Nodes[last].Next = number
			}
			last = number
		}
		return at
	}
	add(p)
	return x
}

// The first model follows the chapter's Terms: it lists the ways in which the texts of a part are made. A way is a string with a rune for each byte of the text, which has a bit for each group in which this byte lies; all are in the group 0. What the bytes are does not matter.
type ways map[string]bool

// pairs are the ways of two parts one behind the other, up to a length.
func (w ways) pairs(other ways, most int) ways {
	all := ways{}
	for one := range w {
		for two := range other {
			if utf8.RuneCountInString(one+two) <= most {
				all[one+two] = true
			}
		}
	}
	return all
}

// with are the ways of one or the other.
func (w ways) with(other ways) ways {
	all := ways{}
	for _, l := range []ways{w, other} {
		for way := range l {
			all[way] = true
		}
	}
	return all
}

// waysOnce are the ways of a part, once, up to a length.
func waysOnce(p part, most int) ways {
	all := ways{}
	switch p.Kind {
	case api.Atom:
		all["\x01"] = true
	case api.Sequence:
		all[""] = true
		for _, kid := range p.kids {
			all = all.pairs(waysOf(kid, most), most)
		}
	case api.Choice:
		for _, kid := range p.kids {
			all = all.with(waysOf(kid, most))
		}
	case api.Paren:
		for way := range waysOf(p.kids[0], most) {
			all[strings.Map(func(bits rune) rune { return bits | 1<<p.Group }, way)] = true
		}
	}
	return all
}

// waysOf are the ways of a part, as often as it stands, up to a length.
func waysOf(p part, most int) ways {
	once := waysOnce(p, most)
	all := once
	if p.Times == api.Star || p.Times == api.Plus {
		for n := 0; n < len(all); {
			n = len(all)
			all = all.with(all.pairs(once, most))
		}
	}
	if p.Times == api.Star || p.Times == api.Maybe {
		all = all.with(ways{"": true})
	}
	return all
}

// lengths are the widths that the ways have.
func (w ways) lengths() *big.Int {
	l := new(big.Int)
	for way := range w {
		l.SetBit(l, utf8.RuneCountInString(way), 1)
	}
	return l
}

// outside is the least number of bytes of a way that lie in none of the groups.
func (w ways) outside(groups []int) int {
	least := -1
	for way := range w {
		n := 0
		for _, bits := range way {
			if !slices.ContainsFunc(groups, func(group int) bool { return bits>>group&1 == 1 }) {
				n++
			}
		}
		if least == -1 || n < least {
			least = n
		}
	}
	return least
}

// The second model has only the widths of parts, as the bits of a number; it is for large trees, too.

// cut is a list of widths without those that are greater than most.
func cut(l *big.Int, most int) *big.Int {
	all := new(big.Int).Lsh(big.NewInt(1), uint(most)+1)
	return l.And(l, all.Sub(all, big.NewInt(1)))
}

// sums are the sums of two widths, up to a greatest one.
func sums(one, two *big.Int, most int) *big.Int {
	all := new(big.Int)
	for i := range one.BitLen() {
		if one.Bit(i) == 1 {
			all.Or(all, new(big.Int).Lsh(two, uint(i)))
		}
	}
	return cut(all, most)
}

// widthsOnce are the widths of a part, once, up to a greatest one.
func widthsOnce(p part, most int) *big.Int {
	switch p.Kind {
	case api.Atom:
		return cut(big.NewInt(2), most)
	case api.Sequence:
		all := big.NewInt(1)
		for _, kid := range p.kids {
			all = sums(widthsOf(kid, most), all, most)
		}
		return all
	}
	all := new(big.Int)
	for _, kid := range p.kids {
		all.Or(all, widthsOf(kid, most))
	}
	return all
}

// widthsOf are the widths of a part, as often as it stands, up to a greatest one.
func widthsOf(p part, most int) *big.Int {
	all := widthsOnce(p, most)
	switch p.Times {
	case api.Star, api.Plus:
		// Only atoms stand more than once: all widths but 0.
		all = cut(big.NewInt(-2), most)
	}
	if p.Times == api.Star || p.Times == api.Maybe {
		all.SetBit(all, 0, 1)
	}
	return all
}

// ends are the least and the greatest one of widths. If they are known up to a number that is greater than that of the atoms, the number is among them only if there is no bound: without * and + each atom gives one byte at most, and with one of these the width may grow by one byte at a time.
func ends(l *big.Int, known int) (least, most int) {
	least, most = int(l.TrailingZeroBits()), l.BitLen()-1
	if most == known {
		most = -1
	}
	return least, most
}

// emptied is a part without what is in the groups.
func emptied(p part, groups []int) part {
	kids := p.kids
	p.kids = nil
	for _, kid := range kids {
		p.kids = append(p.kids, emptied(kid, groups))
	}
	if p.Kind == api.Paren && slices.Contains(groups, p.Group) {
		p.kids = []part{{Node: api.Node{Kind: api.Choice}, kids: []part{{Node: api.Node{Kind: api.Sequence}}}}}
	}
	return p
}

// model is what the models know of a sound tree: its parts, in the order of nodes, how many atoms there are, the part of each group, and the bits of the groups that lie in it.
type model struct {
	root   part
	all    []part
	atoms  int
	groups []part
	inside []int
}

// modelOf is the model of a sound tree.
func modelOf(x api.Tree) model {
	m := model{root: partOf(x, 0)}
	m.all = allOf(m.root)
	m.groups = []part{m.root}
	for _, p := range m.all {
		switch p.Kind {
		case api.Atom:
			m.atoms++
		case api.Paren:
			m.groups = append(m.groups, p)
		}
	}
	for group, p := range m.groups {
		bits := 1 << group
		for _, other := range allOf(p) {
			if other.Kind == api.Paren {
				bits |= 1 << other.Group
			}
		}
		m.inside = append(m.inside, bits)
	}
	return m
}

// known is a width that is greater than the number of the atoms.
func (m model) known() int {
	return m.atoms + 1
}

// areDisjoint is whether a list has only groups, and no two of which one lies in the other one.
func (m model) areDisjoint(groups []int) bool {
	for _, group := range groups {
		if group < 0 || group >= len(m.groups) {
			return false
		}
	}
	for i, one := range groups {
		for j, two := range groups {
			if i != j && m.inside[one]>>two&1 == 1 {
				return false
			}
		}
	}
	return true
}

// outside is what Outside should return.
func (m model) outside(groups []int) (int, api.Errno) {
	switch {
	case !m.areDisjoint(groups):
		return 0, api.ErrGroup
	case slices.Contains(groups, 0):
		return 0, api.OK
	}
	least, _ := ends(widthsOf(emptied(m.root, groups), m.known()), m.known())
	return least, api.OK
}

// lengths is what Lengths should return.
func (m model) lengths(n int) ([]bool, api.Errno) {
	if n < 0 || n > 1000 {
		return nil, api.ErrRange
	}
	l := make([]bool, n+1)
	known := widthsOf(m.root, n)
	for i := range l {
		l[i] = known.Bit(i) == 1
	}
	return l, api.OK
}

// shortTexts are all strings of at most most pieces.
func shortTexts(pieces []string, most int) []string {
	l, from := []string{""}, 0
	for range most {
		longest := l[from:]
		from = len(l)
		for _, s := range longest {
			for _, piece := range pieces {
				l = append(l, s+piece)
			}
		}
	}
	return l
}

// treesOf are the trees of those of the texts that are patterns.
func treesOf(texts ...string) []api.Tree {
	var l []api.Tree
	for _, s := range texts {
		if x, f := pattern.Parse(s); f.Err == api.OK {
			l = append(l, x)
		}
	}
	return l
}

// someSets are sets that are not empty.
func someSets() []api.Set {
	return []api.Set{byteset.Of('a'), byteset.Of(0), byteset.Of(255), byteset.Of('a', 'b'), {1 << 63}, {0, 0, 1}, {0, 0, 0, 1 << 63}, byteset.Not(api.Set{}), byteset.Not(byteset.Of('/'))}
}

// grower makes random parts, with at most so many groups as are left.
type grower struct {
	*rand.Rand
	left  int
	wide  int
	times []int
}

// atom is a random atom.
func (g *grower) atom() part {
	sets := someSets()
	return part{Node: api.Node{Kind: api.Atom, Set: sets[g.Intn(len(sets))], Times: g.times[g.Intn(len(g.times))]}}
}

// choice is a random choice in which groups lie so deep in each other at most.
func (g *grower) choice(deep int) part {
	all := part{Node: api.Node{Kind: api.Choice}}
	for range 1 + g.Intn(g.wide)*g.Intn(2) {
		one := part{Node: api.Node{Kind: api.Sequence}}
		for range g.Intn(g.wide + 2) {
			if deep == 0 || g.left == 0 || g.Intn(3) > 0 {
				one.kids = append(one.kids, g.atom())
				continue
			}
			g.left--
			times := []int{api.Once, api.Maybe}[g.Intn(2)]
			one.kids = append(one.kids, part{Node: api.Node{Kind: api.Paren, Times: times}, kids: []part{g.choice(deep - 1)}})
		}
		all.kids = append(all.kids, one)
	}
	return all
}

// grownTrees are random trees. Atoms stand more than once only in some of them, so that there are bounds in others; a few trees have too many nodes.
func grownTrees(n int, seed int64) []api.Tree {
	r := rand.New(rand.NewSource(seed))
	times := [][]int{{0}, {0, 3}, {0, 0, 0, 3, 2}, {0, 1, 2, 3}}
	var l []api.Tree
	for range n {
		g := grower{Rand: r, left: r.Intn(10), wide: 1 + r.Intn(5), times: times[r.Intn(len(times))]}
		if r.Intn(10) == 0 {
			g.wide = 12
		}
		x := flat(g.choice(r.Intn(6)))
		x.Begin, x.End = r.Intn(2) == 0, r.Intn(2) == 0
		l = append(l, x)
	}
	return l
}

// flatTree is a tree with so many atoms one behind the other, or each one as a choice.
func flatTree(atoms int, times int, inChoices bool) api.Tree {
	root := part{Node: api.Node{Kind: api.Choice}, kids: []part{{Node: api.Node{Kind: api.Sequence}}}}
	for i := range atoms {
		atom := part{Node: api.Node{Kind: api.Atom, Set: byteset.Of('a'), Times: times}}
		if inChoices && i > 0 {
			root.kids = append(root.kids, part{Node: api.Node{Kind: api.Sequence}})
		}
		last := &root.kids[len(root.kids)-1]
		last.kids = append(last.kids, atom)
	}
	return flat(root)
}

// deepTree is a tree with so many groups in each other, with an atom before each one and behind it.
func deepTree(groups int, groupTimes, atomTimes int) api.Tree {
	atom := part{Node: api.Node{Kind: api.Atom, Set: byteset.Of('b'), Times: atomTimes}}
	inner := part{Node: api.Node{Kind: api.Choice}, kids: []part{{Node: api.Node{Kind: api.Sequence}, kids: []part{atom}}}}
	for range groups {
		group := part{Node: api.Node{Kind: api.Paren, Times: groupTimes}, kids: []part{inner}}
		inner = part{Node: api.Node{Kind: api.Choice}, kids: []part{{Node: api.Node{Kind: api.Sequence}, kids: []part{atom, group, atom}}}}
	}
	return flat(inner)
}
