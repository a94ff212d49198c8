package command_test

import (
	"testing"

	"cresset/api"
	"cresset/command"
)

// P10.1
func TestWait(t *testing.T) {
	for _, c := range []struct{ term, slow, want int }{
		{10, 100, 12}, {10, 0, 11}, {10, 1, 12}, {10, 99, 12}, {10, 101, 13}, {10, 1000, 21},
		{1, 0, 2}, {1, 1, 3}, {1, 999, 3}, {1, 1000, 3},
		{1000, 1, 1002}, {999, 1, 1001}, {1001, 1, 1004}, {3, 333, 5}, {3, 334, 6},
		{api.MaxTerm, 0, 100001}, {api.MaxTerm, 1, 100101}, {api.MaxTerm, api.MaxSlow, 200001}, {99999, 999, 199900},
	} {
		if got, e := command.Wait(c.term, c.slow); got != c.want || e != api.OK {
			t.Errorf("%d and %d: %d, error %d; not %d", c.term, c.slow, got, e, c.want)
		}
	}
}

// P10.1: it is the least number that is not less than Term * (1000 + Slow) / 1000, and 1 more.
func TestWaits(t *testing.T) {
	for term := 1; term <= api.MaxTerm; term += 1 + term/7 {
		for slow := 0; slow <= api.MaxSlow; slow++ {
			got, e := command.Wait(term, slow)
			if thousandths := term * (1000 + slow); (got-1)*1000 < thousandths || (got-2)*1000 >= thousandths || e != api.OK {
				t.Fatalf("%d and %d: %d, error %d", term, slow, got, e)
			}
		}
	}
}

// P10.1
func TestNewRanges(t *testing.T) {
	check := func(nodes, term, slow int, want api.Errno) {
		t.Helper()
		if c, e := command.NewCentre(nodes, term, slow); e != want || (c != nil) != (e == api.OK) {
			t.Errorf("a centre of %d with %d and %d: %v, error %d", nodes, term, slow, c, e)
		}
		if nodes == 1 {
			wait, e := command.Wait(term, slow)
			if e != want || (wait != 0) != (e == api.OK) {
				t.Errorf("the wait of %d and %d: %d, error %d", term, slow, wait, e)
			}
		}
		if slow == 0 {
			if n, e := command.NewNode(nodes, term); e != want || (n != nil) != (e == api.OK) {
				t.Errorf("the node %d with %d: %v, error %d", nodes, term, n, e)
			}
		}
	}
	for _, nodes := range []int{1, 2, 7, api.MaxNodes} {
		for _, term := range []int{1, 2, 99999, api.MaxTerm} {
			for _, slow := range []int{0, 1, 999, api.MaxSlow} {
				check(nodes, term, slow, api.OK)
			}
		}
	}
	wrongTerms, wrongSlows := outside(1, api.MaxTerm), outside(0, api.MaxSlow)
	for _, nodes := range outside(1, api.MaxNodes) {
		check(nodes, 10, 0, api.ErrRange)
		check(nodes, wrongTerms[0], wrongSlows[0], api.ErrRange)
	}
	for _, term := range wrongTerms {
		for _, slow := range append(wrongSlows, 0, 1000) {
			check(1, term, slow, api.ErrRange)
		}
	}
	for _, slow := range wrongSlows {
		check(1, 10, slow, api.ErrRange)
	}
}

// P10.1: what is new holds nothing but the centre's authority.
func TestNew(t *testing.T) {
	c := newCentre(t, 3, 10, 0)
	isCentre(t, c, true, 0, 0)
	answers(t, c, ask(3, 1), none) // nobody is wanted
	isNode(t, newNode(t, 8, 10), false, 0, 0)
}

// P10.2, P10.3: an object that is nil, or that no call made.
func TestNil(t *testing.T) {
	copied := *newCentre(t, 2, 10, 0)
	for _, c := range []*command.Centre{nil, {}, new(command.Centre), &copied} {
		for _, w := range append(wrongWords(), ask(1, 1), giveBack(8, 1)) {
			if got, e := c.Hear(w); got != none || e != api.ErrNil {
				t.Errorf("Hear: %v, error %d", got, e)
			}
		}
		for _, e := range []api.Errno{c.Want(0), c.Want(1), c.Want(-1), c.Want(big), c.Tick(), c.Break()} {
			if e != api.ErrNil {
				t.Errorf("a centre that is none: error %d", e)
			}
		}
		isCentre(t, c, false, 0, 0)
	}
	node := newNode(t, 1, 10)
	asks(t, node, 1, 1)
	hears(t, node, grant(1, 1))
	copiedNode := *node
	for _, n := range []*command.Node{nil, {}, new(command.Node), &copiedNode} {
		for _, w := range append(wrongWords(), grant(1, 1), grant(8, 1)) {
			if e := n.Hear(w); e != api.ErrNil {
				t.Errorf("Hear: error %d", e)
			}
		}
		for _, call := range []func() (api.Word, api.Errno){n.Ask, n.Return} {
			if got, e := call(); got != none || e != api.ErrNil {
				t.Errorf("%v, error %d", got, e)
			}
		}
		for _, e := range []api.Errno{n.Tick(), n.Break()} {
			if e != api.ErrNil {
				t.Errorf("a node that is none: error %d", e)
			}
		}
		isNode(t, n, false, 0, 0)
	}
	isNode(t, node, true, 0, 10)
}

// The chapter's examples, and the sixth one of DOC.md.
func TestExamples(t *testing.T) {
	c, n, other := newCentre(t, 2, 10, 100), newNode(t, 1, 10), newNode(t, 2, 10)
	wants(t, c, 1)
	answers(t, c, asks(t, n, 1, 1), grant(1, 1))
	hears(t, n, grant(1, 1))
	isNode(t, n, true, 0, 10)
	isCentre(t, c, false, 1, 0)
	answers(t, c, asks(t, other, 2, 1), none)
	ticks(t, n, 9)
	isNode(t, n, true, 9, 10)
	ticks(t, n, 1)
	isNode(t, n, false, 10, 10)
	ticks(t, c, 11)
	isCentre(t, c, false, 1, 0)
	ticks(t, c, 1)
	isCentre(t, c, true, 0, 0)
	answers(t, c, asks(t, n, 1, 2), grant(1, 2))
	hears(t, n, grant(1, 2))
	isNode(t, n, true, 10, 20)
	isCentre(t, c, false, 1, 12)
	answers(t, c, returns(t, n, 1, 2), none)
	isNode(t, n, false, 10, 10)
	isCentre(t, c, true, 0, 0)
}
