package centre

import (
	"slices"
	"strconv"
	"strings"

	"cresset/api"
	"cresset/weight"
)

// entry is a matter of the log, its decision, and, if that concerned an incident, how this stood then.
type entry struct {
	matter   api.Matter
	decision api.Decision
	status   api.Status
}

// take decides a matter, and writes it into the log.
func (c *Centre) take(m api.Matter) api.Decision {
	came := entry{matter: copyOf(m)}
	came.decision = c.decide(came.matter)
	if n := came.decision.N; came.concerns(n) {
		came.status = c.status(n)
	}
	c.log = append(c.log, came)
	return came.decision
}

// entry returns the matter with a number.
func (c *Centre) entry(n int) (entry, api.Errno) {
	switch {
	case !c.isCentre():
		return entry{}, api.ErrNil
	case !isBetween(0, n, len(c.log)-1):
		return entry{}, api.ErrNone
	}
	return c.log[n], api.OK
}

// concerns reports whether a matter may have changed how an incident stands. What is refused changes nothing, and units are sent for none.
func (e entry) concerns(incident int) bool {
	isOfPlan := e.matter.Kind == api.Send || e.matter.Kind == api.Recall
	return e.decision.Error == api.OK && !isOfPlan && e.decision.N == incident
}

// lastStatus returns how an incident stands behind the last matter of a log.
func lastStatus(log []entry, incident int) (api.Status, api.Errno) {
	for _, came := range slices.Backward(log) {
		if came.concerns(incident) {
			return came.status, api.OK
		}
	}
	return api.Status{}, api.ErrNone
}

// line returns the line of a matter with a number, and of its decision.
func (e entry) line(n int) string {
	d := e.decision
	words := []string{strconv.Itoa(n), wordOf(e.matter.Kind), "ok"}
	if d.Error != api.OK {
		words = append(words[:2], "refused", strconv.Itoa(int(d.Error)))
	}
	words = append(words, strconv.Itoa(d.N), strconv.Itoa(d.Why))
	if left := weight.Text(d.Left); left != "" {
		words = append(words, "left", left)
	}
	return strings.Join(words, " ")
}

// wordOf returns the word of a kind of matters.
func wordOf(kind int) string {
	switch kind {
	case api.Hear:
		return "hear"
	case api.Prove:
		return "prove"
	case api.Close:
		return "close"
	case api.Begin:
		return "begin"
	case api.Pass:
		return "pass"
	case api.Look:
		return "look"
	case api.Suspend:
		return "suspend"
	case api.Send:
		return "send"
	case api.Recall:
		return "recall"
	}
	return "odd"
}

// copyOf returns a matter that shares no memory with m.
func copyOf(m api.Matter) api.Matter {
	m.Report.Where = slices.Clone(m.Report.Where)
	m.Proof.Where = slices.Clone(m.Proof.Where)
	m.Belief.Sea.Land = slices.Clone(m.Belief.Sea.Land)
	m.Belief.Scenes = slices.Clone(m.Belief.Scenes)
	for i, s := range m.Belief.Scenes {
		m.Belief.Scenes[i].Start = slices.Clone(s.Start)
		m.Belief.Scenes[i].Strides = slices.Clone(s.Strides)
	}
	m.Notice.Where = slices.Clone(m.Notice.Where)
	m.Route = slices.Clone(m.Route)
	m.Sky = slices.Clone(m.Sky)
	return m
}
