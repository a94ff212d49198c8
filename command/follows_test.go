package command_test

import (
	"math/rand"
	"testing"

	"cresset/api"
	"cresset/command"
)

// oneOf returns one of some values.
func oneOf[T any](random *rand.Rand, l ...T) T {
	return l[random.Intn(len(l))]
}

// conflicts returns in how many of some worlds more than one holds the authority at some moment.
func conflicts(t *testing.T, random *rand.Rand, worlds, slow, spare int) int {
	t.Helper()
	count := 0
	for range worlds {
		w := newWorld(t, 1+random.Intn(3), 1+random.Intn(5), slow, spare)
		for range 150 {
			w.step(random)
			if w.holders() > 1 {
				count++
				break
			}
		}
	}
	return count
}

// P10.4
func TestNeverTwo(t *testing.T) {
	random := rand.New(rand.NewSource(104))
	for _, slow := range []int{0, 1, 100, 333, 500, 999, 1000} {
		if count := conflicts(t, random, 5000, slow, 1000); count > 0 {
			t.Errorf("in %d worlds with clocks that are slow by %d two held the authority", count, slow)
		}
	}
}

// P10.4: these worlds are no easy ones. Where clocks are just a little worse, some of them end badly.
func TestTwoIfClocksAreWorse(t *testing.T) {
	random := rand.New(rand.NewSource(105))
	for _, x := range []struct{ slow, spare int }{{0, 2000}, {100, 3000}, {500, 3000}, {1000, 4000}} {
		if count := conflicts(t, random, 5000, x.slow, x.spare); count == 0 {
			t.Errorf("clocks that are slow by %d, and %d ahead, are no danger", x.slow, x.spare)
		}
	}
}

// P10.4: the worst clocks that keep to the rules, for each term.
func TestWorstClocks(t *testing.T) {
	for term := 1; term <= 40; term++ {
		for slow := 0; slow <= api.MaxSlow; slow += 1 + slow/3 {
			w := newWorld(t, 2, term, slow, 1000)
			wants(t, w.centre, 1)
			answers(t, w.centre, asks(t, w.nodes[0], 1, 1), grant(1, 1))
			hears(t, w.nodes[0], grant(1, 1))
			wants(t, w.centre, 2)
			for number := 1; w.nodes[0].Holds(); number++ {
				for range 3 {
					w.tickCentre()
					w.tickNode(1)
				}
				answers(t, w.centre, asks(t, w.nodes[1], 2, number), none)
				isCentre(t, w.centre, false, 1, 0)
				w.tickNode(0)
			}
		}
	}
}

// P10.4: what a node gave back, or lost by a breakdown, no late word brings again.
func TestLateWords(t *testing.T) {
	for _, breaksDown := range []bool{false, true} {
		c, n, other := newCentre(t, 2, 10, 0), newNode(t, 1, 10), newNode(t, 2, 10)
		wants(t, c, 1)
		answers(t, c, asks(t, n, 1, 1), grant(1, 1))
		late := asks(t, n, 1, 2)
		if breaksDown {
			breaks(t, n)
		}
		answers(t, c, returns(t, n, 1, 2), none)
		answers(t, c, late, none)
		wants(t, c, 2)
		answers(t, c, asks(t, other, 2, 1), grant(2, 1))
		hears(t, other, grant(2, 1))
		hears(t, n, grant(1, 1))
		isNode(t, n, false, 0, 0)
		isNode(t, other, true, 0, 10)
	}
}

// P10.5: it arrives, whatever was before.
func TestItArrives(t *testing.T) {
	random := rand.New(rand.NewSource(106))
	arrived := 0
	for range 5000 {
		term := 1 + random.Intn(9)
		w := someWorld(t, random, term, oneOf(random, 0, 100, 1000))
		if !w.centre.Holds() {
			continue
		}
		arrived++
		i := random.Intn(len(w.nodes))
		n := w.nodes[i]
		wants(t, w.centre, i+1)
		question, e := n.Ask()
		if e != api.OK {
			t.Fatalf("Ask: error %d", e)
		}
		w.tickCentre()
		answers(t, w.centre, question, grant(i+1, question.Number))
		w.tickCentre()
		hears(t, n, grant(i+1, question.Number))
		for range term {
			if !n.Holds() || w.holders() != 1 {
				t.Fatalf("the node %d does not hold it", i+1)
			}
			w.tickNode(i)
		}
		if n.Holds() {
			t.Fatalf("the node %d holds it for more than %d ticks", i+1, term)
		}
	}
	if arrived < 1000 {
		t.Errorf("it has arrived %d times", arrived)
	}
}

// P10.5: the node that has the lease returns it, whether it has heard of it or not.
func TestItIsReturned(t *testing.T) {
	random := rand.New(rand.NewSource(107))
	returned := 0
	for range 5000 {
		w := someWorld(t, random, 9, 100)
		node, _ := w.centre.Lease()
		if node <= 0 {
			continue
		}
		returned++
		back, e := w.nodes[node-1].Return()
		answers(t, w.centre, back, none)
		if !w.centre.Holds() || w.holders() != 1 || e != api.OK {
			t.Fatalf("the node %d has returned it, and the centre does not hold it, error %d", node, e)
		}
	}
	if returned < 1000 {
		t.Errorf("it was returned %d times", returned)
	}
}

// P10.6
func TestItComesBack(t *testing.T) {
	random := rand.New(rand.NewSource(108))
	waited := 0
	for range 5000 {
		term, slow := 1+random.Intn(9), oneOf(random, 0, 100, 1000)
		w := someWorld(t, random, term, slow)
		if w.centre.Holds() {
			continue
		}
		waited++
		wait, _ := command.Wait(term, slow)
		for left := wait; !w.centre.Holds(); left-- {
			if left == 0 {
				t.Fatalf("the centre does not hold it after %d ticks", wait)
			}
			ticks(t, w.centre, 1)
			wants(t, w.centre, random.Intn(len(w.nodes)+1))
		}
	}
	if waited < 1000 {
		t.Errorf("the centre has waited %d times", waited)
	}
}

// P10.7: of two worlds in which the same is done, one hears words once more.
func TestHeardOnceMore(t *testing.T) {
	random := rand.New(rand.NewSource(109))
	grants := 0
	for range 600 {
		nodes, term, slow := 1+random.Intn(3), 1+random.Intn(6), oneOf(random, 0, 100, 1000)
		once, again := newWorld(t, nodes, term, slow, 1000), newWorld(t, nodes, term, slow, 1000)
		for range 80 {
			choice := random.Int63()
			once.step(rand.New(rand.NewSource(choice)))
			again.step(rand.New(rand.NewSource(choice)))
			switch word := again.last.word; {
			case word == none:
			case again.last.byNode:
				hears(t, again.nodes[word.Node-1], word)
				grants++
			default:
				answers(t, again.centre, word, none)
			}
			isLike(t, again, once)
		}
	}
	if grants < 3000 {
		t.Errorf("grants were heard %d times once more", grants)
	}
}

// P10.7
func TestEndNeverFalls(t *testing.T) {
	random := rand.New(rand.NewSource(110))
	fell := 0
	for range 3000 {
		term := 1 + random.Intn(9)
		w := newWorld(t, 1+random.Intn(3), term, 100, 1000)
		last := make([]int, len(w.nodes))
		for range 80 {
			what := w.step(random)
			for i, n := range w.nodes {
				clock, end := n.Ends()
				if end > clock+term {
					t.Fatalf("the end of the node %d is %d at %d, with the term %d", i+1, end, clock, term)
				}
				if end < last[i] {
					fell++
					if what != give && what != fail || end != clock {
						t.Fatalf("the end of the node %d falls from %d to %d", i+1, last[i], end)
					}
				}
				last[i] = end
			}
		}
	}
	if fell < 1000 {
		t.Errorf("ends fell %d times", fell)
	}
}

// P1: nothing panics, and all ends, whatever the arguments are.
func TestAnyArguments(t *testing.T) {
	random := rand.New(rand.NewSource(111))
	numbers := []int{small, small + 1, -1 << 40, -1, 0, 1, 2, 3, 4, 8, 9, 10, 1000, 1001, api.MaxTerm, api.MaxTerm + 1, api.MaxNumber, api.MaxNumber + 1, big - 1, big}
	n := func() int { return oneOf(random, numbers...) }
	c, node := newCentre(t, 8, 10, 0), newNode(t, 1, 10)
	for range 50000 {
		if wait, e := command.Wait(n(), n()); (wait == 0) != (e != api.OK) {
			t.Fatalf("Wait: %d, error %d", wait, e)
		}
		if got, e := command.NewCentre(n(), n(), n()); (got == nil) != (e != api.OK) {
			t.Fatalf("NewCentre: %v, error %d", got, e)
		}
		if got, e := command.NewNode(n(), n()); (got == nil) != (e != api.OK) {
			t.Fatalf("NewNode: %v, error %d", got, e)
		}
		c.Want(n())
		w := api.Word{Kind: n(), Node: n(), Number: n()}
		if answer, e := c.Hear(w); e != api.OK && answer != none || answer != none && answer != grant(w.Node, w.Number) {
			t.Fatalf("the answer to %v: %v, error %d", w, answer, e)
		}
		if e := node.Hear(w); e != api.OK && e != api.ErrArg {
			t.Fatalf("%v: error %d", w, e)
		}
	}
}
