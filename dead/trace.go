package dead

import (
	"slices"

	"armada/api"
	"armada/lang"
)

// How messages are sent while programs are traced: all of them eagerly.
const (
	eager   = 16
	credits = 64
)

// Trace returns the case of programs.
func Trace(programs [][]lang.Node, n int) ([][]lang.Deed, api.Errno) {
	m, e := lang.New(programs, n, eager, credits)
	if e != api.OK {
		return nil, e
	}
	if slices.ContainsFunc(programs, lang.Wild) {
		return nil, api.ErrState
	}
	r, _ := m.Run(0, lang.MaxSteps)
	switch {
	case !r.Done && !r.Stuck:
		return nil, api.ErrMany
	case hasConflict(m):
		return nil, api.ErrConflict
	}
	return deeds(m)
}

// hasConflict reports whether a process came to a meeting of another kind than the others.
func hasConflict(m *lang.Machine) bool {
	for p := range m.Size() {
		if s, _ := m.State(p); s.Errno == api.ErrConflict {
			return true
		}
	}
	return false
}

// deeds returns what the processes of a machine did, unless it is too much.
func deeds(m *lang.Machine) ([][]lang.Deed, api.Errno) {
	var c [][]lang.Deed
	for p := range m.Size() {
		l, _ := m.Deeds(p)
		if len(l) > MaxDeeds || sendsTooMuch(l, m.Size()) {
			return nil, api.ErrMany
		}
		c = append(c, l)
	}
	return c, api.OK
}

// sendsTooMuch reports whether there are more messages to one of n processes than there are credits.
func sendsTooMuch(l []lang.Deed, n int) bool {
	for to := range n {
		isToIt := func(d lang.Deed) bool { return sends(d) && d.Peer == to }
		if count(l, isToIt) > credits {
			return true
		}
	}
	return false
}
