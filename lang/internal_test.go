package lang

import (
	"slices"
	"testing"

	"armada/api"
)

// marked adds to bytes the mark that Save would give them.
func marked(m *Machine, b []byte) []byte { return appendWord(slices.Clone(b), m.mark(b)) }

// P0, P7.7: bytes with a right mark that Save does not return are not loaded, either.
func TestLoadOfMarkedBytes(t *testing.T) {
	l, _, _ := Read("recv x, any, any; print x;")
	programs := [][]Node{l}
	m, _ := New(programs, 2, 16, 1)
	// without room behind them, so that those below do not share memory
	head := slices.Clip(appendNumbers(nil, 2, 16, 1))
	plain := slices.Clip(appendNumbers(head, 0, -1, 0, -1))
	if c, e := Load(programs, marked(m, plain)); c == nil || e != api.OK {
		t.Fatal("a new machine", e)
	}
	if c, e := Load(programs, marked(m, appendStep(plain, 1))); e != api.OK || c.processes[1].at != 0 || c.processes[1].kind != Waiting {
		t.Fatal("a step", e)
	}
	huge := 1 << 60
	for what, b := range map[string][]byte{
		"nothing":                        {},
		"one number":                     head[:1],
		"no processes":                   head,
		"one process":                    appendNumbers(head, 0, -1),
		"too many forced sources":        appendNumbers(head, huge, 1, 0),
		"a number of them below 0":       appendNumbers(head, -1, -1, 0, -1),
		"a forced source that is not":    appendNumbers(head, 1, 2, -1, 0, -1),
		"too many events":                appendNumbers(head, 0, huge, ERecv, 1),
		"more events than are allowed":   slices.Concat(appendNumbers(head, 0, 10001), make([]byte, 20*10001)),
		"another kind of events":         appendNumbers(appendWord(appendNumbers(head, 0, 1, ESend, 0, 0, 0), 0), 0, -1),
		"not fed, in another way":        appendNumbers(head, 0, -2, 0, -1),
		"a number that is too long":      append(appendNumbers(head, 0, -1, 0), 0x81, 0),
		"bytes behind a torn act":        append(appendNumbers(head, 0, -1, 0), 0x80),
		"a number that goes on":          append(appendNumbers(head, 0, -1, 0), slices.Repeat([]byte{255}, 30)...),
		"a process that there is not":    appendStep(plain, 2),
		"a packet that there is not":     appendDelivery(plain, 0, 1),
		"a packet from nowhere":          appendDelivery(plain, 2, 1),
		"a packet without an end":        append(slices.Clone(plain), aDelivery),
		"a run without an end":           append(slices.Clone(plain), aRun),
		"a run without steps":            appendRun(plain, 1, 0),
		"a run of steps below 0":         appendRun(plain, 1, -1),
		"a run that is too long":         appendRun(plain, 1, MaxSteps+1),
		"a run of more than it can do":   appendRun(plain, 1, 99),
		"an act that there is not":       append(slices.Clone(plain), aRun+1),
		"the last act that there is not": append(slices.Clone(plain), 255),
		"too many processes":             appendNumbers(nil, 65, 16, 1),
		"processes below 0":              appendNumbers(nil, -1, 16, 1),
		"credits that are not":           appendNumbers(nil, 2, 16, 65, 0, -1, 0, -1),
	} {
		if c, e := Load(programs, marked(m, b)); c != nil || e != api.ErrForm {
			t.Error(what, c, e)
		}
	}
}

// P7.7: a step of a process that has ended is not saved, so that it is not loaded, either.
func TestLoadOfStepsBehindTheEnd(t *testing.T) {
	programs := [][]Node{nil}
	m, _ := New(programs, 1, 16, 1)
	b := slices.Clip(appendStep(appendNumbers(nil, 1, 16, 1, 0, -1), 0))
	if c, e := Load(programs, marked(m, b)); e != api.OK || c.processes[0].kind != Ended {
		t.Fatal(e)
	}
	if c, e := Load(programs, marked(m, appendStep(b, 0))); c != nil || e != api.ErrForm {
		t.Error(c, e)
	}
}

// P7.5: a meeting that all have left is not kept.
func TestMeetingsAreLeft(t *testing.T) {
	l, _, _ := Read("while x < 9 { barrier; bcast x, 0; x = x + 1; } barrier;")
	m, _ := New([][]Node{l}, 3, 16, 1)
	if r, e := m.Run(1, MaxSteps); !r.Done || e != api.OK || len(m.meetings) > 0 {
		t.Error(r, e, len(m.meetings))
	}
}

// P7.7: numbers are read as they were written.
func TestNumbersBothWays(t *testing.T) {
	for _, n := range []int{0, 1, -1, 63, 64, -64, -65, 8191, 8192, 1 << 31, -1 << 31, 1<<62 - 1, -1 << 62, 1<<63 - 1, -1 << 63} {
		s := saved{rest: appendNumbers(nil, n, 5)}
		if got, next := s.number(), s.number(); got != n || next != 5 || s.torn || len(s.rest) > 0 {
			t.Error(n, got, next, s)
		}
	}
}
