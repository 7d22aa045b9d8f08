package lang

import (
	"slices"

	"armada/api"
	"armada/sum"
)

// subject is what a meeting is.
type subject struct {
	instruction int
	root        int
	operation   int
}

// meeting is what all processes come to that are not fed.
type meeting struct {
	subject subject
	values  []api.Value // by process: with what it came
	came    int
	left    int
}

func (g *meeting) copied() *meeting {
	c := *g
	c.values = slices.Clone(g.values)
	return &c
}

// result returns what is stored if all processes have come.
func (g *meeting) result() int64 {
	switch g.subject.instruction {
	case IBcast:
		return int64(g.values[g.subject.root].Bits)
	case IReduce:
		v, _ := sum.Reduce(g.subject.operation, api.VInt, g.values)
		return int64(v.Bits)
	}
	return 0
}

func (t *turn) doBarrier() api.Errno { return t.come(subject{}) }

func (t *turn) doBcast() api.Errno {
	root := t.pop()
	if !t.hasRank(root) {
		return api.ErrRank
	}
	return t.come(subject{root: int(root)})
}

func (t *turn) doReduce() api.Errno { return t.come(subject{operation: int(t.in.Arg)}) }

// come lets the process come to a meeting with the value of its variable.
func (t *turn) come(s subject) api.Errno {
	s.instruction = t.in.Op
	if t.fed == nil {
		g, known := t.m.meetings[t.met]
		if !known {
			g = &meeting{subject: s, values: make([]api.Value, len(t.m.processes))}
			t.m.meetings[t.met] = g
		}
		if g.subject != s {
			return api.ErrConflict
		}
		g.values[t.p].Bits = uint64(t.variables[t.in.Name])
		g.came++
	}
	t.deeds = append(t.deeds, Deed{Kind: DMeet})
	t.kind = Meeting
	t.met++
	return api.OK
}

// leave lets the process go on if all have come to the meeting at which it is.
func (t *turn) leave() bool {
	value, all := t.agreed()
	if !all {
		return false
	}
	if t.in.Op == IBarrier {
		value = 0
	} else {
		t.variables[t.in.Name] = value
	}
	t.events = append(t.events, Event{Kind: EMeet, No: t.met - 1, Value: value})
	t.goOn()
	return true
}

// agreed reports whether all processes have come to the meeting at which the process is, and returns the result. A process that is fed takes it from its events.
func (t *turn) agreed() (int64, bool) {
	no := t.met - 1
	if t.fed != nil {
		if no >= len(t.fed.meets) {
			return 0, false
		}
		return t.fed.meets[no].Value, true
	}
	g, n := t.m.meetings[no], len(t.m.processes)
	if g.came < n {
		return 0, false
	}
	if g.left++; g.left == n {
		delete(t.m.meetings, no)
	}
	return g.result(), true
}
