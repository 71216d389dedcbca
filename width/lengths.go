package width

import "waypost/api"

// widths returns which of the numbers from 0 to n are widths of a sound tree.
func widths(nodes []api.Node, n int) []bool {
	// behind returns at which places a node may end if it may begin at those before it. Sums of widths need no other work than that, however many there are.
	var behind func(at int, before []bool) []bool
	behind = func(at int, before []bool) []bool {
		after := make([]bool, len(before))
		switch nodes[at].Kind {
		case atom:
			copy(after[1:], before)
		case sequence:
			copy(after, before)
			for _, kid := range kids(nodes, at) {
				after = behind(kid, after)
			}
		case choice, paren:
			for _, kid := range kids(nodes, at) {
				join(after, behind(kid, before))
			}
		}
		again(after, before, nodes[at].Times)
		return after
	}
	start := make([]bool, n+1)
	start[0] = true
	return behind(root, start)
}

// join adds the places of another list, which is as long.
func join(l, other []bool) {
	for i, is := range other {
		l[i] = l[i] || is
	}
}

// again adds the places behind a node that does not stand once: after holds those behind it once, before those before it. Only atoms, which have one byte, stand more than once.
func again(after, before []bool, times int) {
	if mayRepeat(times) {
		for i := range after[1:] {
			after[i+1] = after[i+1] || after[i]
		}
	}
	if mayMiss(times) {
		join(after, before)
	}
}
