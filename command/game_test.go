package command_test

import (
	"math/rand"
	"testing"

	"cresset/api"
	"cresset/command"
)

// game is a centre and nodes, and their models.
type game struct {
	centre *command.Centre
	nodes  []*command.Node
	master *modelCentre
	models []*modelNode
	sent   []api.Word
}

func newGame(t *testing.T, random *rand.Rand) *game {
	t.Helper()
	count, term, slow := 1+random.Intn(api.MaxNodes), 1+random.Intn(12), oneOf(random, 0, 1, 100, 500, 999, 1000)
	g := &game{centre: newCentre(t, count, term, slow), master: newModelCentre(count, term, slow)}
	for range 4 {
		number, ownTerm := 1+random.Intn(api.MaxNodes), oneOf(random, term, 1+random.Intn(12))
		g.nodes, g.models = append(g.nodes, newNode(t, number, ownTerm)), append(g.models, newModelNode(number, ownTerm))
	}
	return g
}

// word returns a word that was sent, or one that was not.
func (g *game) word(random *rand.Rand) api.Word {
	if len(g.sent) > 0 && random.Intn(3) > 0 {
		return g.sent[max(random.Intn(len(g.sent)), random.Intn(len(g.sent)))]
	}
	if random.Intn(9) == 0 {
		return oneOf(random, wrongWords()...)
	}
	m := oneOf(random, g.models...)
	return api.Word{Kind: 1 + random.Intn(3), Node: oneOf(random, m.number, m.number, 1+random.Intn(api.MaxNodes)), Number: max(1, m.last+random.Intn(5)-2)}
}

// send keeps a word that was sent.
func (g *game) send(w api.Word) {
	if w != none {
		g.sent = append(g.sent, w)
	}
}

// reply is a word, and an error.
type reply struct {
	word api.Word
	e    api.Errno
}

// doCentre does something with the centre and its model, and returns what came of it.
func (g *game) doCentre(random *rand.Rand) (got, want any, what string) {
	switch random.Intn(12) {
	case 0, 1:
		node := oneOf(random, oneOf(random, g.models...).number, oneOf(random, g.models...).number, random.Intn(12)-2)
		return g.centre.Want(node), g.master.want(node), "Want"
	case 2, 3, 4, 5:
		g.master.tick()
		return g.centre.Tick(), api.OK, "Tick"
	case 6:
		if random.Intn(4) > 0 {
			break
		}
		g.master.breakDown()
		return g.centre.Break(), api.OK, "Break"
	}
	w := g.word(random)
	word, e := g.centre.Hear(w)
	wantWord, wantE := g.master.hear(w)
	g.send(word)
	return reply{word, e}, reply{wantWord, wantE}, "Hear"
}

// doNode does something with a node and its model, and returns what came of it.
func (g *game) doNode(random *rand.Rand, i int) (got, want any, what string) {
	n, m := g.nodes[i], g.models[i]
	switch random.Intn(12) {
	case 0, 1, 2:
		word, e := n.Ask()
		g.send(word)
		return reply{word, e}, reply{m.ask(), api.OK}, "Ask"
	case 3, 4, 5:
		m.tick()
		return n.Tick(), api.OK, "Tick"
	case 6:
		word, e := n.Return()
		wantWord, wantE := m.giveBack()
		g.send(word)
		return reply{word, e}, reply{wantWord, wantE}, "Return"
	case 7:
		if random.Intn(4) > 0 {
			break
		}
		m.breakDown()
		return n.Break(), api.OK, "Break"
	}
	w := g.word(random)
	return n.Hear(w), m.hear(w), "Hear"
}

// P10.2, P10.3, P2: sides of which now one and now the other one does something tell at each time what the document says.
func TestByTheText(t *testing.T) {
	random := rand.New(rand.NewSource(102))
	held, granted := 0, 0
	for range 3000 {
		g := newGame(t, random)
		for range 80 {
			var got, want any
			var what string
			if random.Intn(3) == 0 {
				got, want, what = g.doCentre(random)
			} else {
				got, want, what = g.doNode(random, random.Intn(len(g.nodes)))
			}
			if got != want {
				t.Fatalf("%s: %v, not %v", what, got, want)
			}
			if got, want := centreOf(g.centre), g.master.picture(); got != want {
				t.Fatalf("after %s the centre is %v, not %v", what, got, want)
			}
			if g.master.picture().node > 0 {
				granted++
			}
			for i, n := range g.nodes {
				if got, want := nodeOf(n), g.models[i].picture(); got != want {
					t.Fatalf("after %s the node %d is %v, not %v", what, g.models[i].number, got, want)
				}
				if n.Holds() {
					held++
				}
			}
		}
	}
	if held < 10000 || granted < 10000 {
		t.Errorf("nodes held it %d times, and had it granted %d times", held, granted)
	}
}
