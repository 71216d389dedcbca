package pattern

import (
	"iter"

	"waypost/api"
)

// maxNodes is the greatest number of nodes of a tree.
const maxNodes = 200

const (
	// root is the number of the first node.
	root = 0
	// none stands where there is no node.
	none = -1
	// whole is the number of the group in which everything lies.
	whole = 0
)

// children goes through the numbers of the children of a node, in order.
func children(nodes []api.Node, at int) iter.Seq[int] {
	return func(yield func(int) bool) {
		for kid := nodes[at].First; kid != none; kid = nodes[kid].Next {
			if !yield(kid) {
				return
			}
		}
	}
}

// below goes through the numbers of a node and of all nodes below it, in order.
func below(nodes []api.Node, at int) iter.Seq[int] {
	return func(yield func(int) bool) {
		visit(nodes, at, yield)
	}
}

// visit yields what below goes through, and returns whether more is wanted.
func visit(nodes []api.Node, at int, yield func(int) bool) bool {
	if !yield(at) {
		return false
	}
	for kid := range children(nodes, at) {
		if !visit(nodes, kid, yield) {
			return false
		}
	}
	return true
}

// isTree returns whether the nodes are a tree, each one at its place.
func isTree(nodes []api.Node) bool {
	return len(nodes) > 0 && nodes[root].Kind == api.Choice && behind(nodes, root) == len(nodes)
}

// behind returns the number of nodes up to the last one below a node, or none if something is wrong with it or with one below it. As each node has to be the next one in order, there are no circles.
func behind(nodes []api.Node, at int) int {
	if !isSound(nodes[at]) {
		return none
	}
	next := at + 1
	for kid := range children(nodes, at) {
		if kid != next || kid >= len(nodes) || !mayHold(nodes[at].Kind, nodes[kid].Kind) {
			return none
		}
		next = behind(nodes, kid)
		if next == none {
			return none
		}
	}
	return next
}

// isSound returns whether a node has what nodes of its kind have, and nothing else.
func isSound(n api.Node) bool {
	bare := api.Node{Kind: n.Kind, First: n.First, Next: n.Next}
	switch n.Kind {
	case api.Atom:
		return n.First == none && n.Group == 0 && n.Set != (api.Set{}) && api.Once <= n.Times && n.Times <= api.Maybe
	case api.Sequence:
		return n == bare
	case api.Choice:
		return n == bare && n.First != none && n.Next == none
	case api.Paren:
		return n.First != none && n.Set == (api.Set{}) && (n.Times == api.Once || n.Times == api.Maybe)
	}
	return false
}

// mayHold returns whether nodes of the kind parent have children of the kind child.
func mayHold(parent, child int) bool {
	switch parent {
	case api.Choice:
		return child == api.Sequence
	case api.Sequence:
		return child == api.Atom || child == api.Paren
	}
	return child == api.Choice
}

// isNumbered returns whether the groups of a whole tree have their numbers.
func isNumbered(t api.Tree) bool {
	count := 0
	for at := range below(t.Nodes, root) {
		if t.Nodes[at].Kind != api.Paren {
			continue
		}
		count++
		if t.Nodes[at].Group != count {
			return false
		}
	}
	return count == t.Groups && count <= api.MaxGroups
}

// isGroup returns whether the tree has a group with this number.
func isGroup(t api.Tree, group int) bool {
	return whole <= group && group <= t.Groups
}

// holds returns whether the group inner is the group outer, or lies in it.
func holds(nodes []api.Node, outer, inner int) bool {
	place := placeOf(nodes, inner)
	for at := range below(nodes, placeOf(nodes, outer)) {
		if at == place {
			return true
		}
	}
	return false
}

// placeOf returns the number of the node that is a group. Nodes that are no groups have the number of the whole; the first of them is the root.
func placeOf(nodes []api.Node, group int) int {
	for at := range below(nodes, root) {
		if nodes[at].Group == group {
			return at
		}
	}
	return none
}
