package command

import (
	"testing"

	"cresset/api"
)

// P10.3: no node lives long enough to ask so often, so this one gets the number of its last ask.
func TestFull(t *testing.T) {
	n, e := NewNode(2, 10)
	if e != api.OK {
		t.Fatal(e)
	}
	n.asks.forgotten = api.MaxNumber - 1
	last := api.Word{Kind: api.Ask, Node: 2, Number: api.MaxNumber}
	if w, e := n.Ask(); w != last || e != api.OK {
		t.Errorf("the last Ask: %v, error %d", w, e)
	}
	for range 2 {
		if w, e := n.Ask(); w != (api.Word{}) || e != api.ErrFull {
			t.Errorf("an Ask after the last one: %v, error %d", w, e)
		}
	}
	last.Kind = api.Grant
	if e := n.Hear(last); !n.Holds() || e != api.OK {
		t.Errorf("the last Grant: error %d", e)
	}
	last.Kind = api.Return
	if w, e := n.Return(); w != last || e != api.OK || n.Holds() {
		t.Errorf("the last Return: %v, error %d", w, e)
	}
	if w, e := n.Ask(); w != (api.Word{}) || e != api.ErrFull {
		t.Errorf("an Ask after the last Return: %v, error %d", w, e)
	}
}
