package command_test

import (
	"math/rand"
	"testing"

	"cresset/api"
	"cresset/command"
)

// world is a centre and nodes with its term, whose clocks keep to the rules, or to worse ones.
type world struct {
	centre *command.Centre
	nodes  []*command.Node
	slow   int
	spare  int   // how many thousandths of a tick the centre may count beside what its rules say of the nodes' ticks: 1000, if the clocks keep to the rules
	ahead  []int // for each node: how many thousandths of a tick the centre is ahead now of the moment at which it was ahead least
	sent   []api.Word
	last   hearing
}

// hearing is a word, and who has heard it; none, if the word is none.
type hearing struct {
	word   api.Word
	byNode bool
}

// deed is what is done in a world.
type deed int

const (
	nothing deed = iota
	want
	askFor
	give
	hear
	tick
	fail
)

func newWorld(t *testing.T, nodes, term, slow, spare int) *world {
	t.Helper()
	w := &world{centre: newCentre(t, nodes, term, slow), slow: slow, spare: spare, ahead: make([]int, nodes)}
	for number := 1; number <= nodes; number++ {
		w.nodes = append(w.nodes, newNode(t, number, term))
	}
	return w
}

// someWorld returns a world whose clocks keep to the rules, in which some things were done.
func someWorld(t *testing.T, random *rand.Rand, term, slow int) *world {
	t.Helper()
	w := newWorld(t, 1+random.Intn(3), term, slow, 1000)
	for range random.Intn(60) {
		w.step(random)
	}
	return w
}

// tickCentre lets the centre's clock tick, if it may.
func (w *world) tickCentre() {
	for _, ahead := range w.ahead {
		if ahead+1000 > w.spare {
			return
		}
	}
	w.centre.Tick()
	for i := range w.ahead {
		w.ahead[i] += 1000
	}
}

// tickNode lets a node's clock tick, as it always may.
func (w *world) tickNode(i int) {
	w.nodes[i].Tick()
	w.ahead[i] = max(0, w.ahead[i]-1000-w.slow)
}

// send keeps a word that was sent.
func (w *world) send(word api.Word, e api.Errno) {
	if e == api.OK && word != none {
		w.sent = append(w.sent, word)
	}
}

// hear lets the one to whom a word was sent hear it, or, seldom, the other side.
func (w *world) hear(random *rand.Rand) {
	if len(w.sent) == 0 {
		return
	}
	word := oneOf(random, w.sent[len(w.sent)-1], w.sent[len(w.sent)-1], oneOf(random, w.sent...))
	w.last = hearing{word, word.Kind == api.Grant}
	if random.Intn(20) == 0 {
		w.last.byNode = !w.last.byNode
	}
	if w.last.byNode {
		w.nodes[word.Node-1].Hear(word)
	} else {
		w.send(w.centre.Hear(word))
	}
}

// step does something.
func (w *world) step(random *rand.Rand) deed {
	i := random.Intn(len(w.nodes))
	what := oneOf(random, want, want, askFor, askFor, askFor, give, fail, hear, hear, hear, hear, hear, hear, tick, tick, tick, tick, tick, tick)
	switch what {
	case want:
		w.centre.Want(oneOf(random, i+1, random.Intn(len(w.nodes)+1)))
	case askFor:
		w.send(w.nodes[i].Ask())
	case give:
		if random.Intn(3) > 0 {
			return nothing
		}
		w.send(w.nodes[i].Return())
	case fail:
		switch random.Intn(10) {
		case 0:
			w.centre.Break()
		case 1, 2:
			w.nodes[i].Break()
		default:
			return nothing
		}
	case hear:
		w.hear(random)
	case tick:
		if random.Intn(3) > 0 {
			w.tickCentre()
		} else {
			w.tickNode(i)
		}
	}
	if what != hear && what != tick && what != askFor {
		w.last = hearing{}
	}
	return what
}

// holders returns how many hold the authority.
func (w *world) holders() int {
	count := 0
	if w.centre.Holds() {
		count++
	}
	for _, n := range w.nodes {
		if n.Holds() {
			count++
		}
	}
	return count
}

// isLike checks that all sides of a world tell the same as those of another one.
func isLike(t *testing.T, w, other *world) {
	t.Helper()
	if got, want := centreOf(w.centre), centreOf(other.centre); got != want {
		t.Fatalf("the centre is %v, not %v", got, want)
	}
	for i, n := range w.nodes {
		if got, want := nodeOf(n), nodeOf(other.nodes[i]); got != want {
			t.Fatalf("the node %d is %v, not %v", i+1, got, want)
		}
	}
	if len(w.sent) != len(other.sent) {
		t.Fatalf("%v were sent, not %v", w.sent, other.sent)
	}
}
