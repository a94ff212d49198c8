package centre_test

import (
	"math/rand"
	"slices"
	"strconv"
	"testing"

	"cresset/api"
	"cresset/belief"
	"cresset/centre"
	"cresset/incident"
	"cresset/unit"
	"cresset/weight"
)

// model is a centre as the chapter tells of it, word by word, with the lower layers as they are.
type model struct {
	rules    api.Rules
	book     *incident.Book
	searches []modelSearch
	plans    []modelPlan
	view     view
}

type modelSearch struct {
	state   int
	belief  api.Belief
	steps   int
	notices []api.Notice
}

type modelPlan struct {
	boxes []api.Box
	taken bool
}

func newModel(r api.Rules) *model {
	book, _ := incident.New(r.Window, r.Drift)
	return &model{rules: r, book: book, view: view{then: [][]api.Status{nil}}}
}

// left is what Filter returns; at first it is 1.
func (s modelSearch) left() (api.Part, api.Errno) {
	if s.steps == 0 && len(s.notices) == 0 {
		return api.Part{Num: "1", Den: "1"}, api.OK
	}
	_, left, e := belief.Filter(s.belief, s.notices, s.steps)
	return left, e
}

func (k *model) do(m api.Matter) api.Decision {
	d := k.decide(m)
	v := &k.view
	v.statuses, v.taken = nil, nil
	for i, s := range k.searches {
		status := api.Status{Open: slices.Contains(k.book.Open(), i), Search: s.state}
		if s.state != api.Without {
			left, _ := s.left()
			status.Steps, status.Notices, status.Left = s.steps, len(s.notices), left
		}
		v.statuses = append(v.statuses, status)
	}
	for n, p := range k.plans {
		if p.taken {
			v.taken = append(v.taken, n)
		}
	}
	v.lines = append(v.lines, modelLine(len(v.matters), m.Kind, d))
	v.matters, v.decisions, v.then = append(v.matters, m), append(v.decisions, d), append(v.then, v.statuses)
	return d
}

func modelLine(n, kind int, d api.Decision) string {
	word := "odd"
	if 1 <= kind && kind <= 9 {
		word = []string{"hear", "prove", "close", "begin", "pass", "look", "suspend", "send", "recall"}[kind-1]
	}
	line := strconv.Itoa(n) + " " + word
	if d.Error == 0 {
		line += " ok "
	} else {
		line += " refused " + strconv.Itoa(int(d.Error)) + " "
	}
	line += strconv.Itoa(d.N) + " " + strconv.Itoa(d.Why)
	if weight.Check(d.Left) == api.OK {
		line += " left " + weight.Text(d.Left)
	}
	return line
}

func (k *model) decide(m api.Matter) api.Decision {
	switch m.Kind {
	case 1:
		n, why, e := k.book.Take(m.Report)
		if e != api.OK {
			return api.Decision{Error: e}
		}
		if n >= len(k.searches) {
			k.searches = append(k.searches, modelSearch{})
		}
		if k.searches[n].state == api.Suspended {
			k.searches[n].state = api.Active
		}
		return api.Decision{N: n, Why: why}
	case 2:
		if e := k.book.Prove(m.Proof); e != api.OK {
			return api.Decision{Error: e}
		}
		_, n, _ := k.book.Report(m.Proof.Report)
		return api.Decision{N: n}
	case 3:
		why, e := k.book.Close(m.N)
		if e == api.OK {
			k.searches[m.N] = modelSearch{}
		}
		return api.Decision{Error: e, N: m.N, Why: why}
	case 8:
		return k.send(m)
	case 9:
		if m.N < 0 || m.N >= len(k.plans) || !k.plans[m.N].taken {
			return api.Decision{Error: api.ErrNone}
		}
		k.plans[m.N].taken = false
		return api.Decision{N: m.N}
	}
	if m.Kind < 1 || m.Kind > 9 {
		return api.Decision{Error: api.ErrArg}
	}
	return k.search(m)
}

// search decides a matter of a search.
func (k *model) search(m api.Matter) api.Decision {
	if _, e := k.book.Reports(m.N); e != api.OK {
		return api.Decision{Error: api.ErrNone}
	}
	s := &k.searches[m.N]
	next := modelSearch{s.state, s.belief, s.steps, slices.Clone(s.notices)}
	switch m.Kind {
	case 4:
		switch {
		case !slices.Contains(k.book.Open(), m.N) || s.state == api.Active || s.state == api.Suspended:
			return api.Decision{Error: api.ErrState}
		case belief.Check(m.Belief) != api.OK:
			return api.Decision{Error: api.ErrArg}
		}
		next = modelSearch{state: api.Active, belief: m.Belief}
	case 5:
		switch {
		case s.state == api.Without:
			return api.Decision{Error: api.ErrState}
		case s.steps >= 32:
			return api.Decision{Error: api.ErrRange}
		}
		next.steps++
	case 6:
		switch {
		case s.state == api.Without:
			return api.Decision{Error: api.ErrState}
		case belief.CheckNotice(s.belief, m.Notice) != api.OK || m.Notice.Time > s.steps:
			return api.Decision{Error: api.ErrArg}
		case len(s.notices) >= 64:
			return api.Decision{Error: api.ErrLong}
		}
		next.notices = append(next.notices, m.Notice)
	case 7:
		if s.state != api.Active {
			return api.Decision{Error: api.ErrState}
		}
		next.state = api.Suspended
	}
	left, e := next.left()
	isAbove := e == api.OK && weight.Compare(left, k.rules.Limit) > 0
	switch {
	case e != api.OK:
		return api.Decision{Error: e}
	case m.Kind == 7 && isAbove:
		return api.Decision{Error: api.ErrState, N: m.N, Left: left}
	case m.Kind == 6 && s.state == api.Suspended && isAbove:
		next.state = api.Active
	}
	*s = next
	return api.Decision{N: m.N, Left: left}
}

func (k *model) send(m api.Matter) api.Decision {
	legs, _, why, e := unit.Plan(m.Unit, m.Start, m.Route, m.Sky)
	if e != api.OK {
		return api.Decision{Error: e, Why: why}
	}
	if len(k.plans) >= 50 {
		return api.Decision{Error: api.ErrFull}
	}
	boxes, _ := unit.Boxes(m.Unit, legs, k.rules.Pieces)
	for n, p := range k.plans {
		if i, _ := unit.Clash(boxes, p.boxes); p.taken && i != -1 {
			return api.Decision{Error: api.ErrThere, Why: n}
		}
	}
	k.plans = append(k.plans, modelPlan{boxes, true})
	return api.Decision{N: len(k.plans) - 1}
}

// oneOf returns one of some values.
func oneOf[T any](random *rand.Rand, l ...T) T {
	return l[random.Intn(len(l))]
}

// someRules are valid.
func someRules(random *rand.Rand) api.Rules {
	return api.Rules{
		Window: oneOf(random, 0, 100, 3600), Drift: oneOf(random, 0, 3600, 9000),
		Limit: oneOf(random, of(0, 1), of(1, 10), of(1, 4), of(1, 2), of(3, 4), of(1, 1)), Pieces: 1 + random.Intn(4),
	}
}

func someReport(random *rand.Rand) api.Report {
	r := call(50*random.Intn(5), 50*random.Intn(6), 0)
	r.Kind = oneOf(random, api.Call, api.Call, api.Flare)
	r.About = oneOf(random, "", "", "", "gull", "tern")
	r.Souls = oneOf(random, -1, 0, 2, 4)
	if random.Intn(15) == 0 {
		r.Trust = -1
	}
	return r
}

func someProof(random *rand.Rand) api.Proof {
	n, time := random.Intn(10), 50*random.Intn(6)
	return oneOf(random, withdrawn(n, time), withdrawn(n, 200), foundBy(n, 200, 4), foundBy(n, time, 4), foundBy(n, time, 3), api.Proof{Report: n})
}

func someBelief(random *rand.Rand) api.Belief {
	two := drifter()
	two.Scenes = append(two.Scenes, drifter().Scenes[0])
	two.Scenes[0].Weight = of(1, 1+random.Intn(3))
	two.Scenes[1].Start = append(two.Scenes[1].Start, api.Share{Cell: api.Cell{X: 1}, Weight: of(random.Intn(2), 3)})
	return oneOf(random, append(wrongBeliefs()[:2], raft(), drifter(), two, two, fine(40))...)
}

func someNotice(random *rand.Rand) api.Notice {
	from := random.Intn(3)
	n := api.Notice{Time: oneOf(random, 0, 0, 0, 1, 2, 3), Of: random.Intn(4), Where: []api.Run{{From: from, To: from + 1 + random.Intn(3-from)}}}
	n.In = oneOf(random, of(0, 1), of(1, 2), of(1, 3), of(2, 3), of(1, 1))
	n.Out = oneOf(random, of(1, 1), of(1, 1), of(1, 2), of(0, 1))
	if random.Intn(12) == 0 {
		n = oneOf(random, wrongNotices()...)
	}
	return n
}

func someUnit(random *rand.Rand) api.Unit {
	return changed(heronAt(random.Intn(2)), func(u *api.Unit) {
		u.Base, u.Margin, u.Hours = spot(40*random.Intn(4), 40*random.Intn(4)), random.Intn(20), oneOf(random, 10000, 10000, 200)
		u.Name = oneOf(random, "heron", "heron", "heron", "heron", "gull", "gull", "gull", "A")
	})
}

// someMatter is a matter of any kind.
func someMatter(random *rand.Rand) api.Matter {
	n := oneOf(random, 0, 0, 0, 0, 1, 1, 2, 3, 7, -1)
	switch random.Intn(18) {
	case 0, 1:
		return hear(someReport(random))
	case 2, 16:
		return prove(someProof(random))
	case 3, 17:
		return closing(n)
	case 4, 5:
		return begin(n, someBelief(random))
	case 6, 7:
		return pass(n)
	case 8, 9, 10:
		return look(n, someNotice(random))
	case 11, 12:
		return suspend(n)
	case 13, 14:
		m := send(someUnit(random), 100*random.Intn(20))
		for range random.Intn(3) {
			m.Route = append(m.Route, way(100*random.Intn(5), 100*random.Intn(5), random.Intn(50)))
		}
		if random.Intn(4) == 0 {
			m.Sky = []api.Front{{From: 100, To: 900, Low: spot(200, 200), High: spot(500, 500), Wind: 11}}
		}
		return m
	}
	return oneOf(random, recall(n), recall(n), recall(n), changed(recall(n), func(m *api.Matter) { m.Kind = random.Intn(30) - 10 }))
}

// P14.1 to P14.5, P2: two centres, to which now one and now the other matter comes, tell at each time what the chapter says.
func TestCentresOfSome(t *testing.T) {
	random := rand.New(rand.NewSource(141))
	errors, kinds := map[api.Errno]int{}, map[int]int{}
	for range 500 {
		var centres []*centre.Centre
		var models []*model
		for range 2 {
			r := someRules(random)
			centres, models = append(centres, newCentre(t, r)), append(models, newModel(r))
		}
		for range 60 {
			i := random.Intn(2)
			m := someMatter(random)
			want := models[i].do(m)
			if d, e := centres[i].Do(m); d != want || e != api.OK {
				t.Fatalf("the matter %v: %v, error %d; not %v", m, d, e, want)
			}
			errors[want.Error]++
			if want.Error == accepted {
				kinds[m.Kind]++
			}
		}
		for i, c := range centres {
			isView(t, c, models[i].view)
		}
	}
	for _, e := range []api.Errno{api.OK, api.ErrArg, api.ErrRange, api.ErrNone, api.ErrThere, api.ErrState} {
		if errors[e] < 30 {
			t.Errorf("the error %d was decided %d times", e, errors[e])
		}
	}
	for kind := api.Hear; kind <= api.Recall; kind++ {
		if kinds[kind] < 30 {
			t.Errorf("a matter of the kind %d was accepted %d times", kind, kinds[kind])
		}
	}
}
