package command

import "cresset/api"

// Who has a lease, if it is not a node, which has its own number.
const (
	unknown = iota - 1
	nobody
)

// lease says who may have the authority, by which ask, and since when. The zero lease is none.
type lease struct{ node, number, since int }

// Centre is the centre, and who may have the authority.
type Centre struct {
	clock
	self   *Centre // the centre itself, as NewCentre has made it: a copy of a centre is none
	wait   int
	wanted int
	heard  []int // the greatest number with which each node was heard, behind one for nobody
	lease  lease
}

// NewCentre returns a centre.
func NewCentre(nodes, term, slow int) (*Centre, api.Errno) {
	wait, e := Wait(term, slow)
	if e != api.OK || !isNumber(nodes) {
		return nil, api.ErrRange
	}
	c := &Centre{wait: wait, heard: make([]int, 1+nodes)}
	c.self = c
	return c, api.OK
}

// Want says which node is to have the authority.
func (c *Centre) Want(node int) api.Errno {
	switch {
	case !c.isCentre():
		return api.ErrNil
	case node < 0 || !c.knows(node):
		return api.ErrNone
	}
	c.wanted = node
	return api.OK
}

// Hear hears a word.
func (c *Centre) Hear(w api.Word) (answer api.Word, e api.Errno) {
	switch {
	case !c.isCentre():
		return api.Word{}, api.ErrNil
	case !isWord(w):
		return api.Word{}, api.ErrArg
	case !c.knows(w.Node):
		return api.Word{}, api.ErrNone
	}
	return c.replies()[w.Kind](w), api.OK
}

// Tick lets the clock tick.
func (c *Centre) Tick() api.Errno {
	if !c.isCentre() {
		return api.ErrNil
	}
	c.count()
	if !c.Holds() && c.now >= c.lease.since+c.wait {
		c.lease = lease{}
	}
	return api.OK
}

// Break breaks the centre down.
func (c *Centre) Break() api.Errno {
	if !c.isCentre() {
		return api.ErrNil
	}
	c.lease = lease{node: unknown, since: c.now}
	return api.OK
}

// Holds reports whether the centre holds the authority.
func (c *Centre) Holds() bool {
	return c.isCentre() && c.lease.node == nobody
}

// Lease returns which node has a lease, and since when.
func (c *Centre) Lease() (node, since int) {
	if !c.isCentre() {
		return 0, 0
	}
	return c.lease.node, c.lease.since
}

// isCentre reports whether NewCentre has returned the centre.
func (c *Centre) isCentre() bool {
	return c != nil && c.self == c
}

// knows reports whether the centre has a node with a number, or it is that of nobody.
func (c *Centre) knows(node int) bool {
	return node < len(c.heard)
}

// replies returns what the centre does with a word of each kind, and answers.
func (c *Centre) replies() map[int]func(api.Word) api.Word {
	return map[int]func(api.Word) api.Word{
		api.Ask:    c.hearAsk,
		api.Grant:  c.hearGrant,
		api.Return: c.hearReturn,
	}
}

func (c *Centre) hearAsk(w api.Word) api.Word {
	if w.Number <= c.heard[w.Node] {
		return api.Word{}
	}
	c.heard[w.Node] = w.Number
	if w.Node != c.wanted || !c.Holds() && w.Node != c.lease.node {
		return api.Word{}
	}
	c.lease = lease{w.Node, w.Number, c.now}
	return api.Word{Kind: api.Grant, Node: w.Node, Number: w.Number}
}

// hearGrant does nothing: a grant is a word of a centre.
func (c *Centre) hearGrant(api.Word) api.Word {
	return api.Word{}
}

func (c *Centre) hearReturn(w api.Word) api.Word {
	c.heard[w.Node] = max(c.heard[w.Node], w.Number)
	if w.Node == c.lease.node && c.lease.number <= w.Number {
		c.lease = lease{}
	}
	return api.Word{}
}
