package lang_test

import (
	"slices"
	"strings"
	"testing"

	"armada/api"
	"armada/lang"
)

// R3: a machine that is nil, or that New and Load did not make, is not valid: ErrNil comes before all other errors, and Copy and Size return zero values.
func TestInvalidMachines(t *testing.T) {
	for _, m := range []*lang.Machine{nil, {}, new(lang.Machine)} {
		for _, p := range []int{0, -1, 99} {
			is(t, "Force", m.Force(p, []int{-1}), api.ErrNil)
			is(t, "Feed", m.Feed(p, make([]lang.Event, 20000)), api.ErrNil)
			if ok, e := m.Step(p); ok || e != api.ErrNil {
				t.Error("Step", ok, e)
			}
			if ok, e := m.Deliver(p, p); ok || e != api.ErrNil {
				t.Error("Deliver", ok, e)
			}
			if r, e := m.Run(1, p); r != (lang.Result{}) || e != api.ErrNil {
				t.Error("Run", r, e)
			}
			if s, e := m.State(p); s != (lang.State{}) || e != api.ErrNil {
				t.Error("State", s, e)
			}
			if l, e := m.Output(p); len(l) > 0 || e != api.ErrNil {
				t.Error("Output", l, e)
			}
			if v, e := m.Var(p, ""); v != 0 || e != api.ErrNil {
				t.Error("Var", v, e)
			}
			if l, e := m.Events(p); len(l) > 0 || e != api.ErrNil {
				t.Error("Events", l, e)
			}
			if l, e := m.Deeds(p); len(l) > 0 || e != api.ErrNil {
				t.Error("Deeds", l, e)
			}
		}
		if b, e := m.Save(); len(b) > 0 || e != api.ErrNil {
			t.Error("Save", b, e)
		}
		if m.Size() != 0 || m.Copy() != nil {
			t.Error("Size and Copy", m.Size(), m.Copy())
		}
	}
}

// R3: nil lists are empty ones.
func TestNilLists(t *testing.T) {
	for _, l := range [][]lang.Node{nil, {}} {
		is(t, "Check", lang.Check(l), api.OK)
		if s, e := lang.Print(l); s != "" || e != api.OK {
			t.Error(s, e)
		}
		if c := code(t, l); len(c) != 1 || c[0].Op != lang.IEnd {
			t.Error(c)
		}
		if lang.Wild(l) {
			t.Error("wild")
		}
		for _, n := range []lang.Node{{Op: lang.NBarrier, Args: l, Body: l, Else: l}, {Op: lang.NIf, Args: []lang.Node{{Op: lang.NInt, Args: l, Body: l, Else: l}}, Body: l, Else: l}} {
			checks(t, []lang.Node{n}, api.OK)
		}
	}
	for _, sources := range [][]int{nil, {}} {
		for _, l := range [][]lang.Event{nil, {}} {
			m := machine(t, 1, 1, "recv x, any, any;")
			is(t, "Force", m.Force(0, sources), api.OK)
			is(t, "Feed", m.Feed(0, l), api.OK)
			onward(t, m, 0)
			began(t, m, 0, lang.Deed{Kind: lang.DRecv, Peer: -1, Tag: -1})
		}
	}
}

// oddNumbers returns numbers at the edges of all ranges.
func oddNumbers() []int {
	return []int{lowest, lowest + 1, -1 << 32, -3, -2, -1, 0, 1, 2, 3, 16, 64, 65, 4096, 4097, 100000, 100001, 1 << 32, highest - 1, highest}
}

// P0: no call panics or goes on forever, whatever its arguments are; a call with an error returns nothing else.
func TestAllArguments(t *testing.T) {
	l := programs(t, "send rank, 0, rank; recv x, any, any; print x; reduce x, sum;")
	for _, n := range oddNumbers() {
		for _, eager := range oddNumbers() {
			for _, credits := range oddNumbers() {
				m, e := lang.New(l, n, eager, credits)
				if (m == nil) != (e != api.OK) {
					t.Fatal(n, eager, credits, e)
				}
			}
		}
	}
	m := machineOf(t, l, 2, 16, 1)
	for _, a := range oddNumbers() {
		for _, b := range oddNumbers() {
			m.Deliver(a, b)
			m.Force(a, []int{b, a})
			m.Feed(a, []lang.Event{{Kind: b, Peer: a, Tag: b, No: a, Value: int64(b)}, {Kind: lang.ERecv, Peer: a, Tag: b, No: a, Value: int64(b)}})
			m.Step(a)
			m.State(a)
			m.Output(a)
			m.Events(a)
			m.Deeds(a)
			m.Var(a, strings.Repeat("x", 1+min(max(b, 0), 99)))
			if b < 1000 {
				m.Run(uint64(a), b)
			}
		}
	}
	d := dice(78)
	for range 30000 {
		b := make([]byte, d.roll(50))
		for i := range b {
			b[i] = byte(d.roll(256))
		}
		if l, at, e := lang.Read(string(b)); e != api.OK && len(l) > 0 || at < 0 || at > len(b) {
			t.Fatal(b, l, at, e)
		}
	}
}

// oddNodes returns nodes that are hardly ever well-formed.
func oddNodes(d *dice, depth int) []lang.Node {
	var l []lang.Node
	for range d.roll(4) {
		n := lang.Node{Op: d.roll(45) - 1, Value: int64(d.roll(4)) - 1, Name: pick(d, "", "x", "r", "Y", "any"), Other: pick(d, "", "", "x")}
		if depth > 0 {
			n.Args, n.Body, n.Else = oddNodes(d, depth-1), oddNodes(d, depth-1), oddNodes(d, depth-1)
		}
		l = append(l, n)
	}
	return l
}

// P0: programs that are not well-formed.
func TestOddPrograms(t *testing.T) {
	d := dice(79)
	for range 20000 {
		l := oddNodes(&d, d.roll(4))
		e := lang.Check(l)
		s, f := lang.Print(l)
		c, g := lang.Compile(l)
		if e != f || e != g || e != api.OK && (s != "" || len(c) > 0 || lang.Wild(l)) {
			t.Fatalf("%+v: %v %v %v", l, e, f, g)
		}
	}
}

// P0: the largest machine runs to its end.
func TestLargestMachine(t *testing.T) {
	text := "while i < 12 { isend r, (rank + i) % size, i, rank; isend s, (rank + 2 * i) % size, i + 50, rank; recv x, (rank + size - i) % size, i; recv y, any, i + 50; reduce x, sum; wait r; wait s; i = i + 1; } print x;"
	m := machine(t, 64, 0, text)
	for range 20 {
		r, e := m.Run(3, lang.MaxSteps)
		if e != api.OK || r.Stuck {
			t.Fatal(r, e)
		}
		if r.Done {
			break
		}
	}
	for p := range 64 {
		isIn(t, m, p, lang.State{Kind: lang.Ended, At: len(code(t, program(t, text))) - 1})
		prints(t, m, p, 63*64/2)
	}
	alike(t, "a machine that is loaded", m, loaded(t, programs(t, text), saved(t, m)), "x", "y")
}

// scratch overwrites a list.
func scratch[T any](l []T, x T) {
	l = l[:cap(l)]
	for i := range l {
		l[i] = x
	}
}

// R4: a machine keeps no memory of the arguments.
func TestArgumentsAreNotKept(t *testing.T) {
	l := programs(t, "recv x, any, any; if x == 5 { print x + 1; } else { print 0; }", "send 0, 0, 5;", "send 0, 0, 6;")
	m := machineOf(t, l, 3, 16, 1)
	b := saved(t, m)
	for i := range l {
		var spoil func(l []lang.Node)
		spoil = func(l []lang.Node) {
			for _, n := range l {
				spoil(n.Args)
				spoil(n.Body)
				spoil(n.Else)
			}
			scratch(l, lang.Node{Op: 99})
		}
		spoil(l[i])
		l[i] = nil
	}
	again := programs(t, "recv x, any, any; if x == 5 { print x + 1; } else { print 0; }", "send 0, 0, 5;", "send 0, 0, 6;")
	c := loaded(t, again, b)
	scratch(b, 7)
	sources := []int{1, 1}
	is(t, "Force", m.Force(0, sources), api.OK)
	scratch(sources, 2)
	events := []lang.Event{{Kind: lang.ERecv, Value: 9}}
	is(t, "Feed", m.Feed(2, events), api.OK)
	scratch(events, lang.Event{Kind: lang.EMeet})
	run(t, m, 1)
	prints(t, m, 0, 6)
	is(t, "Force", c.Force(0, []int{1}), api.OK)
	run(t, c, 1)
	prints(t, c, 0, 6)
}

// R4: a result shares no memory with a machine, nor with another result; no argument is changed.
func TestResultsAreNew(t *testing.T) {
	text := "print 1; send 0, 0, 2; recv x, 0, 0; print x; barrier; print 3;"
	m := alone(t, text)
	m.Run(1, 12)
	before := look(m)
	for range 2 {
		o, _ := m.Output(0)
		scratch(o, -1)
		e, _ := m.Events(0)
		scratch(e, lang.Event{Kind: 9})
		d, _ := m.Deeds(0)
		scratch(d, lang.Deed{Kind: 9})
		b := saved(t, m)
		scratch(b, 1)
	}
	if !same(look(m), before) || len(before[0].output) == 0 || len(before[0].events) == 0 {
		t.Error("the machine has changed")
	}
	alike(t, "a machine that is loaded", m, loaded(t, programs(t, text), saved(t, m)))
	l := program(t, text)
	want := tidy(l)
	s, _ := lang.Print(l)
	first := code(t, l)
	lang.Check(l)
	lang.Wild(l)
	run(t, machineOf(t, [][]lang.Node{l}, 1, 16, 1), 0)
	if !sameProgram(l, want) || slices.ContainsFunc(l, func(n lang.Node) bool { return n.Op == 99 }) {
		t.Error("the program has changed")
	}
	second := code(t, l)
	scratch(first, lang.Instr{Op: 99})
	if second[0].Op == 99 || code(t, l)[0].Op == 99 {
		t.Error("the instructions share memory")
	}
	if text, _ := lang.Print(program(t, s)); text != s {
		t.Error(text)
	}
}

// R4, P7.4: what is done with copies of a machine at the same time does not meet.
func TestCopiesAtTheSameTime(t *testing.T) {
	l := programs(t, "isend r, (rank + 1) % size, 0, rank; recv x, any, any; reduce x, sum; wait r; print x; send (rank + 1) % size, 0, rank; recv x, any, any; bcast x, 1; print x;")
	m := machineOf(t, l, 3, 16, 1)
	m.Run(4, 30)
	want := m.Copy()
	run(t, want, 5)
	done := make(chan *lang.Machine)
	for range 4 {
		c := m.Copy()
		go func() {
			c.Run(5, lang.MaxSteps)
			done <- c
		}()
	}
	for range 4 {
		alike(t, "a copy beside others", <-done, want, "x")
	}
}
