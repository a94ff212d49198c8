package command_test

import "cresset/api"

// modelCentre is a centre as the document tells of it, word by word.
type modelCentre struct {
	nodes, term, slow int
	clock, wanted     int
	greatest          map[int]int
	lease             modelLease
}

// modelLease is a lease; none, if it is not there.
type modelLease struct {
	there               bool
	node, number, since int
}

func newModelCentre(nodes, term, slow int) *modelCentre {
	return &modelCentre{nodes: nodes, term: term, slow: slow, greatest: map[int]int{}}
}

func (m *modelCentre) want(node int) api.Errno {
	if node < 0 || node > m.nodes {
		return api.ErrNone
	}
	m.wanted = node
	return api.OK
}

// isModelWord reports whether a word is valid.
func isModelWord(w api.Word) bool {
	return (w.Kind == 1 || w.Kind == 2 || w.Kind == 3) && w.Node >= 1 && w.Node <= 8 && w.Number >= 1 && w.Number <= 1<<40
}

func (m *modelCentre) hear(w api.Word) (answer api.Word, e api.Errno) {
	if !isModelWord(w) {
		return api.Word{}, api.ErrArg
	}
	if w.Node > m.nodes {
		return api.Word{}, api.ErrNone
	}
	switch w.Kind {
	case 1:
		if w.Number <= m.greatest[w.Node] {
			break
		}
		m.greatest[w.Node] = w.Number
		if w.Node == m.wanted && (!m.lease.there || m.lease.node == w.Node) {
			m.lease = modelLease{true, w.Node, w.Number, m.clock}
			answer = api.Word{Kind: 2, Node: w.Node, Number: w.Number}
		}
	case 3:
		if w.Number > m.greatest[w.Node] {
			m.greatest[w.Node] = w.Number
		}
		if m.lease.there && m.lease.node == w.Node && m.lease.number <= w.Number {
			m.lease.there = false
		}
	}
	return answer, api.OK
}

func (m *modelCentre) tick() {
	m.clock++
	ticks := 0
	for ticks*1000 < m.term*(1000+m.slow) {
		ticks++
	}
	if m.lease.there && m.clock-m.lease.since >= ticks+1 {
		m.lease.there = false
	}
}

func (m *modelCentre) breakDown() {
	m.lease = modelLease{true, -1, 0, m.clock}
}

func (m *modelCentre) picture() centrePicture {
	if !m.lease.there {
		return centrePicture{holds: true}
	}
	return centrePicture{false, m.lease.node, m.lease.since}
}

// modelNode is a node as the document tells of it, word by word.
type modelNode struct {
	number, term     int
	clock, last, end int
	asks             map[int]int
}

func newModelNode(number, term int) *modelNode {
	return &modelNode{number: number, term: term, asks: map[int]int{}}
}

func (m *modelNode) ask() api.Word {
	m.last++
	m.asks[m.last] = m.clock
	return api.Word{Kind: 1, Node: m.number, Number: m.last}
}

func (m *modelNode) hear(w api.Word) api.Errno {
	if !isModelWord(w) || w.Node != m.number {
		return api.ErrArg
	}
	if asked, ok := m.asks[w.Number]; ok && w.Kind == 2 {
		m.end = max(m.end, asked+m.term)
		for number := range m.asks {
			if number <= w.Number {
				delete(m.asks, number)
			}
		}
	}
	return api.OK
}

func (m *modelNode) giveBack() (api.Word, api.Errno) {
	if m.last == 0 {
		return api.Word{}, api.ErrState
	}
	m.breakDown()
	return api.Word{Kind: 3, Node: m.number, Number: m.last}, api.OK
}

func (m *modelNode) tick() {
	m.clock++
}

func (m *modelNode) breakDown() {
	m.end = m.clock
	clear(m.asks)
}

func (m *modelNode) picture() nodePicture {
	return nodePicture{m.clock < m.end, m.clock, m.end}
}
