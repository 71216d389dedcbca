package width

import (
	"slices"

	"waypost/api"
)

// The kinds of nodes, with the numbers that api gives them.
const (
	atom = iota + api.Atom
	sequence
	choice
	paren
)

const (
	// root is the number of the first node.
	root = 0
	// none stands where there is no node.
	none = -1
	// whole is the number of the group in which everything lies.
	whole = 0
)

// bounds are the least and the greatest width of a node. The greatest one says nothing if there is no bound.
type bounds struct {
	least, most int
	endless     bool
}

// greatest returns the greatest width as results give it.
func (b bounds) greatest() int {
	if b.endless {
		return noBound
	}
	return b.most
}

// sum returns the bounds of nodes that stand one behind the other.
func sum(all ...bounds) bounds {
	var s bounds
	for _, b := range all {
		s.least += b.least
		s.most += b.most
		s.endless = s.endless || b.endless
	}
	return s
}

// either returns the bounds of nodes of which one stands there. There is one at least.
func either(all ...bounds) bounds {
	s := all[0]
	for _, b := range all {
		s.least = min(s.least, b.least)
		s.most = max(s.most, b.most)
		s.endless = s.endless || b.endless
	}
	return s
}

// repeated returns the bounds of a node that stands as often as Times says. Only atoms, which are never empty, stand more than once.
func repeated(b bounds, times int) bounds {
	if mayMiss(times) {
		b.least = 0
	}
	b.endless = b.endless || mayRepeat(times)
	return b
}

// mayMiss returns whether a node with these Times need not stand at all.
func mayMiss(times int) bool {
	return times == api.Star || times == api.Maybe
}

// mayRepeat returns whether a node with these Times may stand more than once.
func mayRepeat(times int) bool {
	return times == api.Star || times == api.Plus
}

// everyOnce returns the bounds of all nodes of a sound tree, each standing once. What lies in the groups does not count.
func everyOnce(nodes []api.Node, groups ...int) map[int]bounds {
	known := map[int]bounds{}
	var visit func(at int) bounds
	visit = func(at int) bounds {
		n := nodes[at]
		var below []bounds
		for _, kid := range kids(nodes, at) {
			below = append(below, visit(kid))
		}
		switch n.Kind {
		case atom:
			known[at] = bounds{least: 1, most: 1}
		case sequence:
			known[at] = sum(below...)
		case paren:
			if slices.Contains(groups, n.Group) {
				known[at] = bounds{}
				break
			}
			// What stands in parentheses is the one choice below them.
			fallthrough
		case choice:
			known[at] = either(below...)
		}
		return repeated(known[at], n.Times)
	}
	visit(root)
	return known
}

// kids returns the numbers of the children of a node, in order.
func kids(nodes []api.Node, at int) []int {
	var l []int
	for kid := nodes[at].First; kid != none; kid = nodes[kid].Next {
		l = append(l, kid)
	}
	return l
}

// placeOf returns the number of the node that is a group. Nodes that are no groups have the number of the whole; the first of them is the root.
func placeOf(nodes []api.Node, group int) int {
	return slices.IndexFunc(nodes, func(n api.Node) bool { return n.Group == group })
}
