package pattern

import (
	"strings"

	"waypost/api"
	"waypost/byteset"
)

const (
	begin     = "^"
	end       = "$"
	bar       = "|"
	open      = "("
	shut      = ")"
	dot       = "."
	backslash = `\`
	openClass = "["
	shutClass = "]"
	not       = "^"
	to        = "-"
	digit     = `\d`
	wordByte  = `\w`
)

// The texts of the sets of digit and wordByte, for byteset.Parse.
const (
	digits    = "0-9"
	wordBytes = "0-9A-Z_a-z"
)

const (
	// behindPiece are the bytes with which no piece begins.
	behindPiece = "^$*+?)]|"
	// noByte are the bytes, besides the backslash, that are no byte of a class.
	noByte = "]-"
	// noEnd are the bytes that a backslash makes a set in a class.
	noEnd = "dw"
)

// signs say how often a piece stands.
var signs = [...]string{api.Once: "", api.Star: "*", api.Plus: "+", api.Maybe: "?"}

// reader reads a text up to its first fault: behind that there is nothing more to read.
type reader struct {
	text  string
	at    int
	fault api.Fault
}

// parser makes the tree of the text that it reads.
type parser struct {
	reader
	api.Tree
}

// rest returns what is still to be read.
func (r *reader) rest() string {
	if r.fault.Err != api.OK {
		return ""
	}
	return r.text[r.at:]
}

// fail ends the reading, unless a fault that was found before did.
func (r *reader) fail(e api.Errno, at int) {
	if r.fault.Err == api.OK {
		r.fault = api.Fault{Err: e, At: at}
	}
}

// take goes past s if it stands here, and returns whether it did.
func (r *reader) take(s string) bool {
	if !strings.HasPrefix(r.rest(), s) {
		return false
	}
	r.at += len(s)
	return true
}

// need goes past s, as nothing else can stand here.
func (r *reader) need(s string) {
	if !r.take(s) {
		r.fail(api.ErrForm, r.at)
	}
}

// sees returns whether there is a byte here that is none of the others.
func (r *reader) sees(others string) bool {
	rest := r.rest()
	return rest != "" && strings.IndexByte(others, rest[0]) < 0
}

// one goes past a byte, and returns it. None of the others can stand here.
func (r *reader) one(others string) byte {
	if !r.sees(others) {
		r.fail(api.ErrForm, r.at)
		return 0
	}
	r.at++
	return r.text[r.at-1]
}

// set reads an atom.
func (r *reader) set() api.Set {
	if s, is := r.named(); is {
		return s
	}
	switch {
	case r.take(dot):
		return everything()
	case r.take(openClass):
		return r.class()
	}
	// Behind a backslash, any byte stands for itself.
	r.take(backslash)
	return byteset.Of(r.one(""))
}

// named reads a set that has a name, if one stands here.
func (r *reader) named() (api.Set, bool) {
	switch {
	case r.take(digit):
		return setOf(digits), true
	case r.take(wordByte):
		return setOf(wordBytes), true
	}
	return api.Set{}, false
}

// class reads a class, behind the bracket with which it begins.
func (r *reader) class() api.Set {
	others := r.take(not)
	s := r.element()
	for r.sees(shutClass) {
		s = byteset.Union(s, r.element())
	}
	if others {
		s = byteset.Not(s)
	}
	if s == (api.Set{}) {
		r.fail(api.ErrForm, r.at)
	}
	r.need(shutClass)
	return s
}

// element reads an element of a class.
func (r *reader) element() api.Set {
	if s, is := r.named(); is {
		return s
	}
	low := r.classByte()
	if !r.take(to) {
		return byteset.Of(low)
	}
	at := r.at
	s, e := byteset.Ranges(api.Range{Low: low, High: r.classByte()})
	if e != api.OK {
		r.fail(e, at)
	}
	return s
}

// classByte reads a byte of a class.
func (r *reader) classByte() byte {
	if r.take(backslash) {
		return r.one(noEnd)
	}
	return r.one(noByte)
}

// times reads how often a piece stands: once, or one of these.
func (r *reader) times(others ...int) int {
	for _, times := range others {
		if r.take(signs[times]) {
			return times
		}
	}
	return api.Once
}

// pattern reads the whole text.
func (p *parser) pattern() {
	p.Begin = p.take(begin)
	p.choice()
	// Only as the last byte it says where the pattern ends.
	p.End = p.rest() == end && p.take(end)
	if p.rest() != "" {
		p.fail(api.ErrForm, p.at)
	}
}

// choice reads a choice, and returns the number of its node.
func (p *parser) choice() int {
	at := p.add(api.Node{Kind: api.Choice})
	kids := []int{p.sequence()}
	for p.take(bar) {
		kids = append(kids, p.sequence())
	}
	p.adopt(at, kids...)
	return at
}

// sequence reads a sequence, and returns the number of its node.
func (p *parser) sequence() int {
	at := p.add(api.Node{Kind: api.Sequence})
	var kids []int
	for p.sees(behindPiece) {
		kids = append(kids, p.piece())
	}
	p.adopt(at, kids...)
	return at
}

// piece reads a piece, and returns the number of its node.
func (p *parser) piece() int {
	if strings.HasPrefix(p.rest(), open) {
		return p.group()
	}
	at := p.add(api.Node{Kind: api.Atom, Set: p.set()})
	p.Nodes[at].Times = p.times(api.Star, api.Plus, api.Maybe)
	return at
}

// group reads a group, and returns the number of its node.
func (p *parser) group() int {
	if p.Groups == api.MaxGroups {
		p.fail(api.ErrGroup, p.at)
	}
	p.need(open)
	p.Groups++
	at := p.add(api.Node{Kind: api.Paren, Group: p.Groups})
	p.adopt(at, p.choice())
	p.need(shut)
	p.Nodes[at].Times = p.times(api.Maybe)
	return at
}

// add puts a node without children behind all others, and returns its number.
func (p *parser) add(n api.Node) int {
	n.First, n.Next = none, none
	p.Nodes = append(p.Nodes, n)
	return len(p.Nodes) - 1
}

// adopt makes the kids the children of a node.
func (p *parser) adopt(parent int, kids ...int) {
	place := &p.Nodes[parent].First
	for _, kid := range kids {
		*place = kid
		place = &p.Nodes[kid].Next
	}
}

// everything returns the set of all bytes.
func everything() api.Set {
	return byteset.Not(api.Set{})
}

// setOf returns the set of a text that is known to have no error.
func setOf(text string) api.Set {
	s, _ := byteset.Parse(text)
	return s
}
