package lang_test

import (
	"fmt"
	"testing"

	"armada/api"
	"armada/lang"
)

// pair is a machine and its model, and what was done with both.
type pair struct {
	programs          [][]lang.Node
	codes             [][]lang.Instr
	n, eager, credits int
	machine           *lang.Machine
	model             *model
	done              []func(p *pair) bool // each reports whether both agreed
}

// pairOf returns a machine of some programs, and its model.
func pairOf(t *testing.T, programs [][]lang.Node, n, eager, credits int) *pair {
	t.Helper()
	x := &pair{programs: programs, n: n, eager: eager, credits: credits, machine: machineOf(t, programs, n, eager, credits)}
	x.model = newModel(programs, n, eager, credits)
	for p := range n {
		x.codes = append(x.codes, code(t, programs[p%len(programs)]))
	}
	return x
}

// do does something with both.
func (x *pair) do(t *testing.T, what string, f func(p *pair) bool) {
	t.Helper()
	x.done = append(x.done, f)
	if !f(x) {
		t.Fatalf("%s: the machine and the model do not agree\n%s", what, x.texts())
	}
	x.compare(t, what)
}

// texts returns the programs as texts.
func (x *pair) texts() string {
	s := fmt.Sprintln(x.n, "processes, eager", x.eager, "credits", x.credits)
	for _, l := range x.programs {
		text, _ := lang.Print(l)
		s += text + "--\n"
	}
	return s
}

// compare fails unless the processes of both look the same.
func (x *pair) compare(t *testing.T, what string) {
	t.Helper()
	got, want := look(x.machine), x.model.look()
	for p, q := range x.model.processes {
		at := got[p].state.At
		if at < 0 || at >= len(x.codes[p]) || x.codes[p][at].Op != q.before {
			t.Fatalf("%s: the process %d is at %d, which is not the instruction %d\n%s", what, p, at, q.before, x.texts())
		}
		got[p].state.At = 0
		for _, in := range x.codes[p] {
			for _, name := range []string{in.Name, in.Other} {
				v, e := x.machine.Var(p, name)
				isRequest := name == "r" || name == "s" || name == "q0" || name == ""
				if isRequest != (e == api.ErrNone) || !isRequest && (e != api.OK || v != q.vars[name]) {
					t.Fatalf("%s: %s of %d is %d %v, not %d\n%s", what, name, p, v, e, q.vars[name], x.texts())
				}
			}
		}
	}
	if !same(got, want) {
		t.Fatalf("%s:\n%+v\n%+v\n%s", what, got, want, x.texts())
	}
}

// fork returns a copy of the machine, and a model of its own.
func (x *pair) fork(t *testing.T) *pair {
	t.Helper()
	c := pairOf(t, x.programs, x.n, x.eager, x.credits)
	fresh := c.machine
	for _, f := range x.done {
		f(c)
	}
	alike(t, "the same was done with two machines", x.machine, c.machine)
	c.machine, c.done = x.machine.Copy(), x.done[:len(x.done):len(x.done)]
	alike(t, "a copy", fresh, c.machine)
	return c
}

// reload replaces the machine by what Load returns for its bytes.
func (x *pair) reload(t *testing.T) {
	t.Helper()
	b, e := x.machine.Save()
	if e != api.OK || len(b) == 0 {
		t.Fatal("Save", b, e)
	}
	m, e := lang.Load(x.programs, b)
	if e != api.OK || m == nil {
		t.Fatal("Load", m, e)
	}
	alike(t, "a machine that is loaded", x.machine, m)
	x.machine = m
}

// stepOf does a step of a process.
func stepOf(p int) func(x *pair) bool {
	return func(x *pair) bool {
		ok, e := x.machine.Step(p)
		return ok == x.model.step(p) && e == api.OK
	}
}

func delivery(src, dst int) func(x *pair) bool {
	return func(x *pair) bool {
		ok, e := x.machine.Deliver(src, dst)
		return ok == x.model.deliver(src, dst) && e == api.OK
	}
}

func runOf(seed uint64, limit int) func(x *pair) bool {
	return func(x *pair) bool {
		r, e := x.machine.Run(seed, limit)
		want, _ := x.model.run(seed, limit)
		return r == want && e == api.OK
	}
}

func forced(p int, sources []int) func(x *pair) bool {
	return func(x *pair) bool {
		x.model.processes[p].forced = sources
		return x.machine.Force(p, sources) == api.OK
	}
}

func fed(p int, l []lang.Event) func(x *pair) bool {
	return func(x *pair) bool {
		x.model.feed(p, l)
		return x.machine.Feed(p, l) == api.OK
	}
}

// events returns some events with which a process can be fed.
func events(d *dice) []lang.Event {
	var l []lang.Event
	for range d.roll(9) {
		l = append(l, lang.Event{Kind: d.roll(6), Peer: d.roll(9) - 2, Tag: d.roll(9) - 2, No: d.roll(99), Value: int64(d.roll(9)) - 2, Wild: d.often(2)})
	}
	return l
}

// prepare forces and feeds some processes.
func prepare(t *testing.T, d *dice, x *pair) {
	for p := range x.n {
		for d.often(4) {
			var sources []int
			for range d.roll(6) {
				sources = append(sources, d.roll(x.n))
			}
			x.do(t, "Force", forced(p, sources))
		}
		for d.often(9) {
			x.do(t, "Feed", fed(p, events(d)))
		}
	}
}

// randomPair returns a machine of random programs.
func randomPair(t *testing.T, d *dice) *pair {
	n := 1 + d.roll(4)
	count := pick(d, 1, n)
	var l [][]lang.Node
	wild := d.often(2)
	for range count {
		l = append(l, tame(d, wild, 1+d.roll(7)))
	}
	return pairOf(t, l, n, pick(d, 0, 15, 16, 4096), d.roll(4))
}

// P7.4 to P7.7: whatever is done with machines, copies of them and those that are loaded, they do what their models do.
func TestMachinesAndModels(t *testing.T) {
	d := dice(61)
	ends := map[lang.State]int{}
	for range 1500 {
		x := randomPair(t, &d)
		prepare(t, &d, x)
		for range 5 {
			if d.often(3) {
				c := x.fork(t)
				if d.often(2) {
					c, x = x, c
				}
				c.do(t, "Run of one of two", runOf(uint64(d.roll(1000)), d.roll(60)))
				x.compare(t, "the other one of two")
				c.model.close()
			}
			if d.often(3) {
				x.reload(t)
			}
			p, q := d.roll(x.n), d.roll(x.n)
			switch d.roll(3) {
			case 0:
				x.do(t, "Run", runOf(uint64(d)<<20+uint64(d.roll(1000)), d.roll(120)))
			case 1:
				for range d.roll(40) {
					x.do(t, "Step", stepOf(p))
				}
			case 2:
				for range d.roll(4) {
					x.do(t, "Deliver", delivery(p, q))
					x.do(t, "Step", stepOf(d.roll(x.n)))
				}
			}
		}
		x.reload(t)
		x.do(t, "Run to the end", runOf(uint64(d.roll(1000)), lang.MaxSteps))
		for _, s := range look(x.machine) {
			ends[lang.State{Kind: s.state.Kind, Errno: s.state.Errno}]++
		}
		x.model.close()
	}
	for _, s := range []lang.State{{Kind: lang.Ended}, {Kind: lang.Waiting}, {Kind: lang.Meeting}, {Kind: lang.Failed, Errno: api.ErrArg}, {Kind: lang.Failed, Errno: api.ErrRank}, {Kind: lang.Failed, Errno: api.ErrTag}, {Kind: lang.Failed, Errno: api.ErrState}, {Kind: lang.Failed, Errno: api.ErrConflict}} {
		if ends[s] < 10 {
			t.Errorf("only %d processes with the state %+v", ends[s], s)
		}
	}
}

// P7.5, P7.11: a run is the same as the steps that it does, one by one.
func TestRunsAndSteps(t *testing.T) {
	d := dice(62)
	for range 600 {
		x := randomPair(t, &d)
		prepare(t, &d, x)
		seed, limit := uint64(d.roll(1<<30)), d.roll(300)
		other := x.machine.Copy()
		r, e := x.machine.Run(seed, limit)
		want, l := x.model.run(seed, limit)
		if r != want || e != api.OK {
			t.Fatalf("%+v %v, not %+v\n%s", r, e, want, x.texts())
		}
		x.compare(t, "Run")
		for _, s := range l {
			if s.p >= 0 {
				_, e = other.Step(s.p)
			} else {
				_, e = other.Deliver(s.src, s.dst)
			}
			is(t, "a step of a run", e, api.OK)
		}
		alike(t, "a run and its steps", x.machine, other)
		again, _ := x.machine.Run(1, lang.MaxSteps)
		if r, _ := other.Run(1, lang.MaxSteps); r != again {
			t.Fatal("they go on in two ways:", r, again)
		}
		alike(t, "a run and its steps, later", x.machine, other)
		x.model.close()
	}
}
