package share_test

import (
	"strings"
	"testing"

	"cresset/api"
	"cresset/share"
)

// isValid checks whether a statement is valid.
func isValid(t *testing.T, s api.Said, want bool) {
	t.Helper()
	if got := share.CheckSaid(s); got != want {
		t.Errorf("%#v is valid: %t", s, got)
	}
}

// changed returns a statement with a change.
func changed(s api.Said, change func(s *api.Said)) api.Said {
	change(&s)
	return s
}

// P13.1: the ranges of numbers, at their bounds.
func TestCheckNumbers(t *testing.T) {
	for _, x := range []struct {
		set         func(s *api.Said, n int)
		least, most int
	}{
		{func(s *api.Said, n int) { s.Centre = n }, 1, 8},
		{func(s *api.Said, n int) { s.Number = n }, 1, 1000},
		{func(s *api.Said, n int) { s.Time = n }, 0, 1 << 30},
		{func(s *api.Said, n int) { s.Trust = n }, 0, 1000},
		{func(s *api.Said, n int) { s.Number, s.Back = 1, n }, 0, 0},
		{func(s *api.Said, n int) { s.Number, s.Back = 2, n }, 0, 1},
		{func(s *api.Said, n int) { s.Number, s.Back = 1000, n }, 0, 999},
		{func(s *api.Said, n int) { *s = takesBack(1, 1000, n) }, 1, 999},
		{func(s *api.Said, n int) { *s = takesBack(1, 2, n) }, 1, 1},
		{func(s *api.Said, n int) { *s = takesBack(n, 2, 1) }, 1, 8},
		{func(s *api.Said, n int) { *s = takesBack(1, n, 1) }, 2, 1000},
	} {
		for _, n := range []int{x.least, (x.least + x.most) / 2, x.most} {
			isValid(t, changed(said(1, 1), func(s *api.Said) { x.set(s, n) }), true)
		}
		for _, n := range outside(x.least, x.most) {
			isValid(t, changed(said(1, 1), func(s *api.Said) { x.set(s, n) }), false)
		}
	}
}

// P13.1: names.
func TestCheckKey(t *testing.T) {
	for _, key := range []string{"a", "z", "a-", "raft-7", "z0", longName} {
		isValid(t, changed(said(1, 1), func(s *api.Said) { s.Key = key }), true)
	}
	for _, key := range []string{"", "A", "7", "-", "-a", "0a", " a", "a ", "aB", "a_", "a`", "a{", "a/", "a:", "a.", "a\x00", "a\xff", "ä", "aé", longName + "a", strings.Repeat("a", 1000)} {
		isValid(t, changed(said(1, 1), func(s *api.Said) { s.Key = key }), false)
	}
	for b := range 256 {
		inName := 'a' <= b && b <= 'z' || '0' <= b && b <= '9' || b == '-'
		isValid(t, changed(said(1, 1), func(s *api.Said) { s.Key = "a" + string([]byte{byte(b)}) }), inName)
		isValid(t, changed(said(1, 1), func(s *api.Said) { s.Key = string([]byte{byte(b), 'a'}) }), 'a' <= b && b <= 'z')
	}
}

// P13.1: values.
func TestCheckValue(t *testing.T) {
	for _, value := range []string{" ", "!", "~", "   ", " a ", "a b", "Seen, at 5!", longValue, strings.Repeat(" ", 100)} {
		isValid(t, changed(said(1, 1), func(s *api.Said) { s.Value = value }), true)
	}
	for _, value := range []string{"", longValue + "x", strings.Repeat(" ", 101), strings.Repeat("a", 5000), strings.Repeat("é", 50), "é", "a\n", "\ta"} {
		isValid(t, changed(said(1, 1), func(s *api.Said) { s.Value = value }), false)
	}
	for b := range 256 {
		for _, value := range [][]byte{{byte(b)}, {byte(b), 'x'}, {'x', byte(b)}, {'x', byte(b), 'x'}} {
			isValid(t, changed(said(1, 1), func(s *api.Said) { s.Value = string(value) }), ' ' <= b && b <= '~')
		}
	}
}

// P13.1: a statement states something, or it only takes something back.
func TestCheckTakesBack(t *testing.T) {
	for _, x := range []struct {
		s    api.Said
		want bool
	}{
		{takesBack(1, 2, 1), true},
		{api.Said{Centre: 8, Number: 1000, Back: 999}, true},
		{api.Said{Centre: 1, Number: 3, Key: "raft", Value: "seen", Back: 2}, true},
		{api.Said{Centre: 1, Number: 3, Key: "raft", Value: "seen"}, true},
		{takesBack(1, 2, 0), false},
		{api.Said{Centre: 1, Number: 2, Key: "raft", Back: 1}, false},
		{api.Said{Centre: 1, Number: 2, Value: "seen", Back: 1}, false},
		{api.Said{Centre: 1, Number: 2, Time: 1, Back: 1}, false},
		{api.Said{Centre: 1, Number: 2, Trust: 1, Back: 1}, false},
		{api.Said{Centre: 1, Number: 2, Value: "seen", Time: 1, Trust: 1, Back: 1}, false},
		{api.Said{Centre: 1, Number: 2, Key: "raft", Time: 1, Trust: 1, Back: 1}, false},
	} {
		isValid(t, x.s, x.want)
	}
	for _, s := range wrongSaids() {
		isValid(t, s, false)
	}
}
