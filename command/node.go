package command

import "cresset/api"

// Node is a unit on the scene.
type Node struct {
	clock
	self   *Node // the node itself, as NewNode has made it: a copy of a node is none
	number int
	term   int
	asks   numbered[int] // the clock's times
	end    int
}

// NewNode returns a node.
func NewNode(number, term int) (*Node, api.Errno) {
	if !isNumber(number) || !isTerm(term) {
		return nil, api.ErrRange
	}
	n := &Node{number: number, term: term}
	n.self = n
	return n, api.OK
}

// Ask asks for the authority.
func (n *Node) Ask() (api.Word, api.Errno) {
	switch {
	case !n.isNode():
		return api.Word{}, api.ErrNil
	case n.asks.last() == api.MaxNumber:
		return api.Word{}, api.ErrFull
	}
	n.asks.add(n.now)
	return n.say(api.Ask), api.OK
}

// Hear hears a word.
func (n *Node) Hear(w api.Word) api.Errno {
	switch {
	case !n.isNode():
		return api.ErrNil
	case !isWord(w) || w.Node != n.number:
		return api.ErrArg
	case w.Kind != api.Grant:
		return api.OK
	}
	if asked, ok := n.asks.value(w.Number); ok {
		n.end = max(n.end, asked+n.term)
		n.asks.forget(w.Number)
	}
	return api.OK
}

// Return gives the authority back.
func (n *Node) Return() (api.Word, api.Errno) {
	switch {
	case !n.isNode():
		return api.Word{}, api.ErrNil
	case n.asks.last() == 0:
		return api.Word{}, api.ErrState
	}
	n.stop()
	return n.say(api.Return), api.OK
}

// Tick lets the clock tick.
func (n *Node) Tick() api.Errno {
	if !n.isNode() {
		return api.ErrNil
	}
	n.count()
	return api.OK
}

// Break breaks the node down.
func (n *Node) Break() api.Errno {
	if !n.isNode() {
		return api.ErrNil
	}
	n.stop()
	return api.OK
}

// Holds reports whether the node holds the authority.
func (n *Node) Holds() bool {
	return n.isNode() && n.now < n.end
}

// Ends returns the clock, and the end of the node's term.
func (n *Node) Ends() (clock, end int) {
	if !n.isNode() {
		return 0, 0
	}
	return n.now, n.end
}

// isNode reports whether NewNode has returned the node.
func (n *Node) isNode() bool {
	return n != nil && n.self == n
}

// stop ends the node's term, and forgets all asks, so that a grant that is still on its way gives it nothing.
func (n *Node) stop() {
	n.end = n.now
	n.asks.forget(n.asks.last())
}

// say returns a word with the number of the last ask.
func (n *Node) say(kind int) api.Word {
	return api.Word{Kind: kind, Node: n.number, Number: n.asks.last()}
}
