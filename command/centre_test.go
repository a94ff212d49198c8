package command_test

import (
	"testing"

	"cresset/api"
)

// P10.2
func TestWant(t *testing.T) {
	for nodes := 1; nodes <= api.MaxNodes; nodes++ {
		c := newCentre(t, nodes, 10, 0)
		for node := 1; node <= nodes; node++ {
			wants(t, c, node)
			for _, wrong := range outside(0, nodes) {
				if e := c.Want(wrong); e != api.ErrNone {
					t.Errorf("%d of %d is wanted: error %d", wrong, nodes, e)
				}
			}
			answers(t, c, ask(node%nodes+1, node), map[bool]api.Word{true: grant(1, 1)}[nodes == 1])
			answers(t, c, ask(node, 100), grant(node, 100))
			answers(t, c, giveBack(node, 100), none)
		}
		wants(t, c, 0)
		for node := 1; node <= nodes; node++ {
			answers(t, c, ask(node, 200), none)
		}
		isCentre(t, c, true, 0, 0)
	}
}

// P10.2: whom it wants changes nothing of who has it.
func TestWantKeepsTheLease(t *testing.T) {
	c := newCentre(t, 2, 3, 0)
	wants(t, c, 1)
	answers(t, c, ask(1, 1), grant(1, 1))
	for _, node := range []int{1, 0, 2} {
		wants(t, c, node)
		isCentre(t, c, false, 1, 0)
	}
	answers(t, c, ask(1, 2), none) // it has the lease, but is not wanted
	answers(t, c, ask(2, 1), none) // it is wanted, but has not the lease
	ticks(t, c, 4)
	isCentre(t, c, true, 0, 0)
	answers(t, c, ask(2, 1), none) // was heard before
	answers(t, c, ask(1, 3), none)
	answers(t, c, ask(2, 2), grant(2, 2))
	isCentre(t, c, false, 2, 4)
}

// P10.2: what is refused changes nothing.
func TestCentreRefuses(t *testing.T) {
	for nodes := 1; nodes <= api.MaxNodes; nodes++ {
		c := newCentre(t, nodes, 10, 0)
		wants(t, c, nodes)
		check := func() {
			t.Helper()
			for _, w := range wrongWords() {
				refuses(t, c, w, api.ErrArg)
			}
			for node := nodes + 1; node <= api.MaxNodes; node++ {
				for _, w := range []api.Word{ask(node, 1), grant(node, 1), giveBack(node, api.MaxNumber), ask(node, api.MaxNumber)} {
					refuses(t, c, w, api.ErrNone)
				}
			}
		}
		check()
		answers(t, c, ask(nodes, 1), grant(nodes, 1))
		check()
		answers(t, c, ask(nodes, api.MaxNumber), grant(nodes, api.MaxNumber))
		breaks(t, c)
		check()
		isCentre(t, c, false, -1, 0)
	}
}

// P10.2: numbers that were heard, of each node on its own.
func TestAskNumbers(t *testing.T) {
	c := newCentre(t, 2, 10, 0)
	wants(t, c, 1)
	answers(t, c, ask(1, 5), grant(1, 5))
	for _, number := range []int{5, 4, 1} {
		answers(t, c, ask(1, number), none)
	}
	ticks(t, c, 3)
	answers(t, c, ask(1, 5), none)
	isCentre(t, c, false, 1, 0)
	answers(t, c, ask(1, 6), grant(1, 6))
	isCentre(t, c, false, 1, 3)
	answers(t, c, ask(2, 9), none) // neither wanted, nor free
	answers(t, c, giveBack(1, 6), none)
	wants(t, c, 2)
	answers(t, c, ask(2, 9), none)
	answers(t, c, ask(2, 8), none)
	answers(t, c, ask(2, 10), grant(2, 10))
	isCentre(t, c, false, 2, 3)
	answers(t, c, giveBack(2, 10), none)
	wants(t, c, 1)
	answers(t, c, ask(1, 7), grant(1, 7)) // less than what the other one has reached
	answers(t, c, giveBack(1, 7), none)
	answers(t, c, giveBack(1, 20), none)
	answers(t, c, giveBack(1, 15), none)
	answers(t, c, ask(1, 20), none)
	answers(t, c, ask(1, 21), grant(1, 21))
	answers(t, c, ask(1, api.MaxNumber), grant(1, api.MaxNumber))
	answers(t, c, ask(1, api.MaxNumber), none)
}

// P10.2: a return ends the lease of its node alone, if it is not older than what was granted.
func TestCentreHearsReturn(t *testing.T) {
	for _, x := range []struct {
		node, number int
		ends         bool
	}{
		{1, 4, false}, {1, 5, true}, {1, 6, true}, {1, api.MaxNumber, true}, {1, 1, false}, {2, 5, false}, {2, api.MaxNumber, false},
	} {
		c := newCentre(t, 2, 10, 0)
		wants(t, c, 1)
		ticks(t, c, 7)
		answers(t, c, ask(1, 5), grant(1, 5))
		ticks(t, c, 2)
		answers(t, c, giveBack(x.node, x.number), none)
		if x.ends {
			isCentre(t, c, true, 0, 0)
		} else {
			isCentre(t, c, false, 1, 7)
		}
	}
}

// P10.2: a return counts for the numbers that were heard, whoever has the lease.
func TestReturnIsHeard(t *testing.T) {
	c := newCentre(t, 3, 10, 0)
	wants(t, c, 1)
	answers(t, c, giveBack(1, 3), none) // nobody has it
	answers(t, c, ask(1, 3), none)
	answers(t, c, ask(1, 4), grant(1, 4))
	answers(t, c, giveBack(2, 9), none) // another one has it
	answers(t, c, giveBack(1, 4), none)
	breaks(t, c)
	answers(t, c, giveBack(3, 6), none) // it is not known who has it
	ticks(t, c, 11)
	wants(t, c, 2)
	answers(t, c, ask(2, 9), none)
	answers(t, c, ask(2, 10), grant(2, 10))
	answers(t, c, giveBack(2, 10), none)
	wants(t, c, 3)
	answers(t, c, ask(3, 6), none)
	answers(t, c, ask(3, 7), grant(3, 7))
}

// P10.2: a grant is nothing to the centre, whatever it says.
func TestCentreHearsGrant(t *testing.T) {
	c := newCentre(t, 2, 10, 0)
	wants(t, c, 1)
	answers(t, c, grant(1, 1), none)
	isCentre(t, c, true, 0, 0)
	answers(t, c, ask(1, 1), grant(1, 1))
	for _, w := range []api.Word{grant(1, 1), grant(1, api.MaxNumber), grant(2, 7)} {
		answers(t, c, w, none)
		isCentre(t, c, false, 1, 0)
	}
	answers(t, c, ask(1, 2), grant(1, 2))
	answers(t, c, giveBack(1, 2), none)
	wants(t, c, 2)
	answers(t, c, ask(2, 7), grant(2, 7))
}

// P10.2: the wait counts from the last grant on, in the centre's ticks.
func TestCentreTicks(t *testing.T) {
	for _, x := range []struct{ term, slow, wait int }{{1, 0, 2}, {3, 500, 6}, {10, 100, 12}, {20, 1000, 41}, {1, 1, 3}} {
		c := newCentre(t, 1, x.term, x.slow)
		wants(t, c, 1)
		for number := range 5 {
			ticks(t, c, 3)
			isCentre(t, c, true, 0, 0)
			since := 3 + number*(3+x.wait+1)
			answers(t, c, ask(1, 2*number+1), grant(1, 2*number+1))
			isCentre(t, c, false, 1, since)
			ticks(t, c, 1)
			answers(t, c, ask(1, 2*number+2), grant(1, 2*number+2))
			for range x.wait {
				isCentre(t, c, false, 1, since+1)
				ticks(t, c, 1)
			}
			isCentre(t, c, true, 0, 0)
		}
	}
}

// P10.2: behind a breakdown the centre waits, whoever had the lease.
func TestCentreBreaks(t *testing.T) {
	for had := range 3 {
		c := newCentre(t, 2, 4, 0)
		wants(t, c, had)
		ticks(t, c, 10)
		if had > 0 {
			answers(t, c, ask(had, 1), grant(had, 1))
			ticks(t, c, 2)
		}
		now := 10 + min(2*had, 2)
		breaks(t, c)
		isCentre(t, c, false, -1, now)
		wants(t, c, 1)
		answers(t, c, ask(1, 2), none)
		answers(t, c, giveBack(1, api.MaxNumber-1), none)
		answers(t, c, giveBack(2, 1), none)
		isCentre(t, c, false, -1, now)
		ticks(t, c, 4)
		isCentre(t, c, false, -1, now)
		ticks(t, c, 1)
		isCentre(t, c, true, 0, 0)
		answers(t, c, ask(1, api.MaxNumber), grant(1, api.MaxNumber))
		isCentre(t, c, false, 1, now+5)
	}
}

// P10.2: each breakdown begins the wait anew; whom it wants, and what it has heard, stays.
func TestCentreBreaksAgain(t *testing.T) {
	c := newCentre(t, 2, 4, 0)
	wants(t, c, 2)
	answers(t, c, ask(1, 3), none)
	answers(t, c, ask(2, 3), grant(2, 3))
	breaks(t, c)
	ticks(t, c, 4)
	breaks(t, c)
	isCentre(t, c, false, -1, 4)
	ticks(t, c, 4)
	isCentre(t, c, false, -1, 4)
	ticks(t, c, 1)
	isCentre(t, c, true, 0, 0)
	answers(t, c, ask(2, 3), none)
	answers(t, c, ask(1, 4), none)
	answers(t, c, ask(2, 4), grant(2, 4))
	wants(t, c, 1)
	answers(t, c, giveBack(2, 4), none)
	answers(t, c, ask(1, 4), none)
	answers(t, c, ask(1, 5), grant(1, 5))
}
