package pattern

import (
	"iter"
	"strings"

	"waypost/api"
	"waypost/byteset"
)

const (
	// marks are the bytes that have a backslash before them as atoms.
	marks = `^$.*+?()[]|\`
	// classMarks are those that have one in classes.
	classMarks = `^]-\`
)

// nodeText returns the text of a node of a whole tree.
func nodeText(nodes []api.Node, at int) string {
	n := nodes[at]
	switch n.Kind {
	case api.Atom:
		return setText(n.Set) + signs[n.Times]
	case api.Paren:
		return open + nodeText(nodes, n.First) + shut + signs[n.Times]
	}
	var texts []string
	for kid := range children(nodes, at) {
		texts = append(texts, nodeText(nodes, kid))
	}
	if n.Kind == api.Choice {
		return strings.Join(texts, bar)
	}
	return strings.Join(texts, "")
}

// setText returns the text of a set that is not empty.
func setText(s api.Set) string {
	if s == everything() {
		return dot
	}
	if l := byteset.List(s); len(l) == 1 {
		return quoted(l[0], marks)
	}
	return classText(s)
}

// classText returns the text of a set as a class.
func classText(s api.Set) string {
	text := openClass
	for run := range runs(s) {
		text += quoted(run.Low, classMarks)
		if run.High-run.Low > 1 {
			text += to
		}
		if run.High > run.Low {
			text += quoted(run.High, classMarks)
		}
	}
	return text + shutClass
}

// quoted returns a byte, with a backslash before it if it is one of the marks.
func quoted(b byte, marks string) string {
	text := string([]byte{b})
	if strings.Contains(marks, text) {
		return backslash + text
	}
	return text
}

// runs goes through the runs of a set, ascending, each as long as possible.
func runs(s api.Set) iter.Seq[api.Range] {
	return func(yield func(api.Range) bool) {
		l := byteset.List(s)
		for len(l) > 0 {
			n := 1
			for n < len(l) && l[n] == l[n-1]+1 {
				n++
			}
			if !yield(api.Range{Low: l[0], High: l[n-1]}) {
				return
			}
			l = l[n:]
		}
	}
}
