package command_test

import (
	"testing"

	"cresset/api"
	"cresset/command"
)

const (
	big   = 1<<63 - 1
	small = -1 << 63
)

// outside are numbers that are not from least to most.
func outside(least, most int) []int {
	return []int{least - 1, most + 1, -7, most + 1000, -1 << 32, 1 << 41, small, big}
}

func ask(node, number int) api.Word {
	return api.Word{Kind: api.Ask, Node: node, Number: number}
}

func grant(node, number int) api.Word {
	return api.Word{Kind: api.Grant, Node: node, Number: number}
}

func giveBack(node, number int) api.Word {
	return api.Word{Kind: api.Return, Node: node, Number: number}
}

// none is the word that stands for no answer.
var none api.Word

// wrongWords are not valid, whoever hears them.
func wrongWords() []api.Word {
	l := []api.Word{none}
	for _, right := range []api.Word{ask(1, 1), grant(1, 1), giveBack(1, 1)} {
		for _, n := range outside(api.Ask, api.Return) {
			l = append(l, api.Word{Kind: n, Node: right.Node, Number: right.Number})
		}
		for _, n := range outside(1, api.MaxNodes) {
			l = append(l, api.Word{Kind: right.Kind, Node: n, Number: right.Number})
		}
		for _, n := range outside(1, api.MaxNumber) {
			l = append(l, api.Word{Kind: right.Kind, Node: right.Node, Number: n})
		}
	}
	return l
}

func newCentre(t *testing.T, nodes, term, slow int) *command.Centre {
	t.Helper()
	c, e := command.NewCentre(nodes, term, slow)
	if c == nil || e != api.OK {
		t.Fatalf("a centre of %d with %d and %d: %v, error %d", nodes, term, slow, c, e)
	}
	return c
}

func newNode(t *testing.T, number, term int) *command.Node {
	t.Helper()
	n, e := command.NewNode(number, term)
	if n == nil || e != api.OK {
		t.Fatalf("the node %d with %d: %v, error %d", number, term, n, e)
	}
	return n
}

// wants lets a centre want a node.
func wants(t *testing.T, c *command.Centre, node int) {
	t.Helper()
	if e := c.Want(node); e != api.OK {
		t.Fatalf("Want %d: error %d", node, e)
	}
}

// answers checks what a centre answers to a word.
func answers(t *testing.T, c *command.Centre, w, want api.Word) {
	t.Helper()
	if got, e := c.Hear(w); got != want || e != api.OK {
		t.Fatalf("the answer to %v: %v, error %d; not %v", w, got, e, want)
	}
}

// refuses checks with which error a centre refuses a word.
func refuses(t *testing.T, c *command.Centre, w api.Word, want api.Errno) {
	t.Helper()
	before := centreOf(c)
	if got, e := c.Hear(w); got != none || e != want || centreOf(c) != before {
		t.Fatalf("the answer to %v: %v, error %d; not the error %d", w, got, e, want)
	}
}

// asks checks the number of a node's next ask.
func asks(t *testing.T, n *command.Node, node, number int) api.Word {
	t.Helper()
	w, e := n.Ask()
	if w != ask(node, number) || e != api.OK {
		t.Fatalf("Ask: %v, error %d; not %d", w, e, number)
	}
	return w
}

// returns checks the number of what a node gives back.
func returns(t *testing.T, n *command.Node, node, number int) api.Word {
	t.Helper()
	w, e := n.Return()
	if w != giveBack(node, number) || e != api.OK {
		t.Fatalf("Return: %v, error %d; not %d", w, e, number)
	}
	return w
}

// hears lets a node hear a word.
func hears(t *testing.T, n *command.Node, w api.Word) {
	t.Helper()
	if e := n.Hear(w); e != api.OK {
		t.Fatalf("%v: error %d", w, e)
	}
}

// side is what a centre and a node both have.
type side interface {
	Tick() api.Errno
	Break() api.Errno
	Holds() bool
}

func ticks(t *testing.T, s side, count int) {
	t.Helper()
	for range count {
		if e := s.Tick(); e != api.OK {
			t.Fatalf("Tick: error %d", e)
		}
	}
}

func breaks(t *testing.T, s side) {
	t.Helper()
	if e := s.Break(); e != api.OK {
		t.Fatalf("Break: error %d", e)
	}
}

// centrePicture is what a centre tells: whether it holds the authority, who has the lease, and since when.
type centrePicture struct {
	holds       bool
	node, since int
}

func centreOf(c *command.Centre) centrePicture {
	node, since := c.Lease()
	return centrePicture{c.Holds(), node, since}
}

// isCentre checks what a centre tells.
func isCentre(t *testing.T, c *command.Centre, holds bool, node, since int) {
	t.Helper()
	if got, want := centreOf(c), (centrePicture{holds, node, since}); got != want {
		t.Fatalf("the centre is %v, not %v", got, want)
	}
}

// nodePicture is what a node tells: whether it holds the authority, its clock, and its end.
type nodePicture struct {
	holds      bool
	clock, end int
}

func nodeOf(n *command.Node) nodePicture {
	clock, end := n.Ends()
	return nodePicture{n.Holds(), clock, end}
}

// isNode checks what a node tells.
func isNode(t *testing.T, n *command.Node, holds bool, clock, end int) {
	t.Helper()
	if got, want := nodeOf(n), (nodePicture{holds, clock, end}); got != want {
		t.Fatalf("the node is %v, not %v", got, want)
	}
}
