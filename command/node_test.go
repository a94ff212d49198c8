package command_test

import (
	"testing"

	"cresset/api"
)

// P10.3
func TestAsk(t *testing.T) {
	for number := 1; number <= api.MaxNodes; number++ {
		n := newNode(t, number, 5)
		for i := 1; i <= 20; i++ {
			asks(t, n, number, i)
			if i%3 == 0 {
				ticks(t, n, 1)
			}
		}
		isNode(t, n, false, 6, 0)
		hears(t, n, grant(number, 20))
		asks(t, n, number, 21)
		returns(t, n, number, 21)
		asks(t, n, number, 22)
		breaks(t, n)
		asks(t, n, number, 23)
	}
}

// P10.3: the end comes from when the node asked, not from when it hears.
func TestNodeHears(t *testing.T) {
	n := newNode(t, 2, 5)
	ticks(t, n, 7)
	asks(t, n, 2, 1)
	ticks(t, n, 2)
	asks(t, n, 2, 2)
	asks(t, n, 2, 3)
	ticks(t, n, 1)
	hears(t, n, grant(2, 1))
	isNode(t, n, true, 10, 12)
	hears(t, n, grant(2, 3))
	isNode(t, n, true, 10, 14)
	ticks(t, n, 3)
	isNode(t, n, true, 13, 14)
	hears(t, n, grant(2, 2)) // forgotten
	isNode(t, n, true, 13, 14)
	ticks(t, n, 1)
	isNode(t, n, false, 14, 14)
	asks(t, n, 2, 4)
	ticks(t, n, 5)
	hears(t, n, grant(2, 4)) // too late
	isNode(t, n, false, 19, 19)
	asks(t, n, 2, 5)
	ticks(t, n, 9)
	hears(t, n, grant(2, 5)) // much too late
	isNode(t, n, false, 28, 24)
}

// P10.3: of the asks just those up to the one that is granted are forgotten.
func TestNodeForgets(t *testing.T) {
	n := newNode(t, 1, 100)
	for i := 1; i <= 9; i++ {
		asks(t, n, 1, i)
		ticks(t, n, 1)
	}
	for _, x := range []struct{ number, end int }{
		{10, 0}, {3, 102}, {3, 102}, {2, 102}, {1, 102}, {4, 103}, {7, 106}, {5, 106}, {6, 106}, {7, 106}, {9, 108}, {8, 108}, {10, 108}, {api.MaxNumber, 108},
	} {
		hears(t, n, grant(1, x.number))
		isNode(t, n, x.end > 0, 9, x.end)
	}
	asks(t, n, 1, 10)
	hears(t, n, grant(1, 10))
	isNode(t, n, true, 9, 109)
}

// P10.3: all other words are nothing to a node.
func TestNodeHearsOthers(t *testing.T) {
	n := newNode(t, 3, 5)
	hears(t, n, grant(3, 1))
	asks(t, n, 3, 1)
	ticks(t, n, 1)
	asks(t, n, 3, 2)
	for _, w := range []api.Word{ask(3, 1), giveBack(3, 1), ask(3, 2), giveBack(3, 2), grant(3, 3), giveBack(3, api.MaxNumber), ask(3, api.MaxNumber), grant(3, api.MaxNumber)} {
		hears(t, n, w)
		isNode(t, n, false, 1, 0)
	}
	hears(t, n, grant(3, 1))
	isNode(t, n, true, 1, 5)
	for _, w := range []api.Word{ask(3, 1), giveBack(3, 1), ask(3, 2), giveBack(3, 2)} {
		hears(t, n, w)
		isNode(t, n, true, 1, 5)
	}
	hears(t, n, grant(3, 2))
	isNode(t, n, true, 1, 6)
	asks(t, n, 3, 3)
}

// P10.3: what is refused changes nothing.
func TestNodeRefuses(t *testing.T) {
	n := newNode(t, 3, 5)
	asks(t, n, 3, 1)
	check := func(w api.Word) {
		t.Helper()
		before := nodeOf(n)
		if e := n.Hear(w); e != api.ErrArg || nodeOf(n) != before {
			t.Fatalf("%v: error %d", w, e)
		}
	}
	for range 2 {
		for _, w := range wrongWords() {
			w.Node = map[bool]int{true: 3, false: w.Node}[w.Node == 1] // what is wrong is not just the node
			check(w)
		}
		for node := 1; node <= api.MaxNodes; node++ {
			if node != 3 {
				check(ask(node, 1))
				check(grant(node, 1))
				check(giveBack(node, 1))
			}
		}
		hears(t, n, grant(3, 1))
		isNode(t, n, true, 0, 5)
	}
}

// P10.3
func TestReturn(t *testing.T) {
	n := newNode(t, 4, 5)
	ticks(t, n, 3)
	for range 2 {
		if w, e := n.Return(); w != none || e != api.ErrState {
			t.Errorf("a Return without an Ask: %v, error %d", w, e)
		}
		isNode(t, n, false, 3, 0)
		hears(t, n, grant(4, 1))
	}
	asks(t, n, 4, 1)
	asks(t, n, 4, 2)
	hears(t, n, grant(4, 1))
	isNode(t, n, true, 3, 8)
	ticks(t, n, 1)
	returns(t, n, 4, 2)
	isNode(t, n, false, 4, 4)
	hears(t, n, grant(4, 2)) // forgotten
	isNode(t, n, false, 4, 4)
	ticks(t, n, 9)
	returns(t, n, 4, 2) // without the authority, and once more
	isNode(t, n, false, 13, 13)
	asks(t, n, 4, 3)
	hears(t, n, grant(4, 2))
	isNode(t, n, false, 13, 13)
	hears(t, n, grant(4, 3))
	isNode(t, n, true, 13, 18)
}

// P10.3
func TestNodeBreaks(t *testing.T) {
	n := newNode(t, 4, 5)
	ticks(t, n, 3)
	breaks(t, n)
	isNode(t, n, false, 3, 3)
	if w, e := n.Return(); w != none || e != api.ErrState {
		t.Errorf("a Return without an Ask: %v, error %d", w, e)
	}
	asks(t, n, 4, 1)
	asks(t, n, 4, 2)
	asks(t, n, 4, 3)
	hears(t, n, grant(4, 1))
	ticks(t, n, 2)
	isNode(t, n, true, 5, 8)
	breaks(t, n)
	isNode(t, n, false, 5, 5)
	for number := 1; number <= 4; number++ {
		hears(t, n, grant(4, number))
		isNode(t, n, false, 5, 5)
	}
	returns(t, n, 4, 3)
	asks(t, n, 4, 4)
	hears(t, n, grant(4, 3))
	isNode(t, n, false, 5, 5)
	hears(t, n, grant(4, 4))
	isNode(t, n, true, 5, 10)
}

// P1: many asks, and many grants that are heard, take no long time.
func TestManyAsks(t *testing.T) {
	const many = 200000
	n := newNode(t, 1, 7)
	for i := 1; i <= many; i++ {
		asks(t, n, 1, i)
		hears(t, n, grant(1, many+1))
		if i%2 == 0 {
			ticks(t, n, 1)
		}
	}
	for i := 1; i <= many; i++ {
		hears(t, n, grant(1, i))
		isNode(t, n, (i-1)/2+7 > many/2, many/2, (i-1)/2+7)
		hears(t, n, grant(1, i/2+1))
	}
}
