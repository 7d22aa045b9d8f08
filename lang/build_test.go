package lang_test

import (
	"reflect"
	"slices"
	"testing"

	"armada/api"
	"armada/lang"
)

const (
	highest = int(^uint(0) >> 1)
	lowest  = -highest - 1

	most  = int64(highest)
	least = int64(lowest)
)

// The calls of the chapter's examples.
const (
	programA = "if rank == 0 { send 1, 7, 42; } else { recv x, 0, 7; print x; }"
	programB = "send 1 - rank, 0, rank; recv x, 1 - rank, 0; print x;"
	programC = "x = rank; reduce x, max; print x; bcast rank_, 5;"
)

// program returns the program of a text, and fails if it is none.
func program(t *testing.T, text string) []lang.Node {
	t.Helper()
	l, at, e := lang.Read(text)
	if e != api.OK || at != 0 {
		t.Fatalf("Read of %q: %d %v", text, at, e)
	}
	return l
}

// programs returns the programs of some texts.
func programs(t *testing.T, texts ...string) [][]lang.Node {
	t.Helper()
	var out [][]lang.Node
	for _, s := range texts {
		out = append(out, program(t, s))
	}
	return out
}

// code returns the instructions of a program.
func code(t *testing.T, l []lang.Node) []lang.Instr {
	t.Helper()
	c, e := lang.Compile(l)
	if e != api.OK {
		t.Fatal("Compile", l, e)
	}
	return c
}

// machineOf returns a machine, and fails if there is an error.
func machineOf(t *testing.T, l [][]lang.Node, n, eager, credits int) *lang.Machine {
	t.Helper()
	m, e := lang.New(l, n, eager, credits)
	if e != api.OK || m == nil {
		t.Fatal("New", n, eager, credits, m, e)
	}
	return m
}

// machine returns a machine with the eager limit 16: one text for each of n processes, or one for all.
func machine(t *testing.T, n, credits int, texts ...string) *lang.Machine {
	t.Helper()
	return machineOf(t, programs(t, texts...), n, 16, credits)
}

// alone returns a machine with one process and one credit.
func alone(t *testing.T, text string) *lang.Machine {
	t.Helper()
	return machine(t, 1, 1, text)
}

// run runs a machine as long as it can go on, and fails if that is too long.
func run(t *testing.T, m *lang.Machine, seed uint64) lang.Result {
	t.Helper()
	r, e := m.Run(seed, lang.MaxSteps)
	if e != api.OK || r.Done == r.Stuck {
		t.Fatal("Run", seed, r, e)
	}
	return r
}

// step lets a process do some steps, and fails if nothing happens in one of them.
func step(t *testing.T, m *lang.Machine, p, count int) {
	t.Helper()
	for i := range count {
		if ok, e := m.Step(p); !ok || e != api.OK {
			t.Fatal("step", i, "of", p, ok, e)
		}
	}
}

// still fails unless nothing happens in a step of a process.
func still(t *testing.T, m *lang.Machine, p int) {
	t.Helper()
	if ok, e := m.Step(p); ok || e != api.OK {
		t.Fatal("a step of", p, ok, e)
	}
}

// onward lets a process do steps until nothing happens.
func onward(t *testing.T, m *lang.Machine, p int) {
	t.Helper()
	for range lang.MaxSteps {
		ok, e := m.Step(p)
		if e != api.OK {
			t.Fatal("a step of", p, e)
		}
		if !ok {
			return
		}
	}
	t.Fatal("the process", p, "goes on forever")
}

// deliver lets some packets arrive, and fails if there are less.
func deliver(t *testing.T, m *lang.Machine, src, dst, count int) {
	t.Helper()
	for range count {
		if ok, e := m.Deliver(src, dst); !ok || e != api.OK {
			t.Fatal("Deliver", src, dst, ok, e)
		}
	}
}

// empty fails unless no packet is on its way.
func empty(t *testing.T, m *lang.Machine, src, dst int) {
	t.Helper()
	if ok, e := m.Deliver(src, dst); ok || e != api.OK {
		t.Error("Deliver", src, dst, ok, e)
	}
}

// isIn fails unless a process has a state.
func isIn(t *testing.T, m *lang.Machine, p int, want lang.State) {
	t.Helper()
	if s, e := m.State(p); s != want || e != api.OK {
		t.Errorf("the state of %d is %+v %v, not %+v", p, s, e, want)
	}
}

// kinds fails unless the states of all processes have kinds.
func kinds(t *testing.T, m *lang.Machine, want ...int) {
	t.Helper()
	for p, kind := range want {
		if s, e := m.State(p); s.Kind != kind || e != api.OK {
			t.Errorf("the state of %d is %+v %v, not of the kind %d", p, s, e, kind)
		}
	}
}

// failed fails unless a process has failed with an error.
func failed(t *testing.T, m *lang.Machine, p int, want api.Errno) {
	t.Helper()
	if s, e := m.State(p); s.Kind != lang.Failed || s.Errno != want || e != api.OK {
		t.Errorf("the state of %d is %+v %v, not failed with %v", p, s, e, want)
	}
}

// prints fails unless a process has printed some numbers.
func prints(t *testing.T, m *lang.Machine, p int, want ...int64) {
	t.Helper()
	if l, e := m.Output(p); !slices.Equal(l, want) || e != api.OK {
		t.Errorf("the output of %d is %v %v, not %v", p, l, e, want)
	}
}

// holds fails unless a variable has a value.
func holds(t *testing.T, m *lang.Machine, p int, name string, want int64) {
	t.Helper()
	if v, e := m.Var(p, name); v != want || e != api.OK {
		t.Errorf("%s of %d is %d %v, not %d", name, p, v, e, want)
	}
}

// shows fails unless a process has some events.
func shows(t *testing.T, m *lang.Machine, p int, want ...lang.Event) {
	t.Helper()
	if l, e := m.Events(p); !slices.Equal(l, want) || e != api.OK {
		t.Errorf("the events of %d are %+v %v, not %+v", p, l, e, want)
	}
}

// began fails unless a process has some deeds.
func began(t *testing.T, m *lang.Machine, p int, want ...lang.Deed) {
	t.Helper()
	if l, e := m.Deeds(p); !slices.Equal(l, want) || e != api.OK {
		t.Errorf("the deeds of %d are %+v %v, not %+v", p, l, e, want)
	}
}

// is fails unless a call returned an error.
func is(t *testing.T, what string, got, want api.Errno) {
	t.Helper()
	if got != want {
		t.Errorf("%s: %v, not %v", what, got, want)
	}
}

// shown is all that can be seen of a process.
type shown struct {
	state  lang.State
	output []int64
	events []lang.Event
	deeds  []lang.Deed
	vars   []int64 // of the names that are asked for; -1 and the error for those that are no variables
}

// look returns all that can be seen of the processes of a machine.
func look(m *lang.Machine, names ...string) []shown {
	var out []shown
	for p := range m.Size() {
		var x shown
		x.state, _ = m.State(p)
		x.output, _ = m.Output(p)
		x.events, _ = m.Events(p)
		x.deeds, _ = m.Deeds(p)
		for _, name := range names {
			v, e := m.Var(p, name)
			if e != api.OK {
				x.vars = append(x.vars, -1, int64(e))
			}
			x.vars = append(x.vars, v)
		}
		out = append(out, x)
	}
	return out
}

// same reports whether processes look the same. An empty list is a nil one.
func same(a, b []shown) bool {
	return slices.EqualFunc(a, b, func(x, y shown) bool {
		return x.state == y.state && slices.Equal(x.output, y.output) && slices.Equal(x.events, y.events) && slices.Equal(x.deeds, y.deeds) && slices.Equal(x.vars, y.vars)
	})
}

// alike fails unless two machines look the same.
func alike(t *testing.T, what string, a, b *lang.Machine, names ...string) {
	t.Helper()
	if x, y := look(a, names...), look(b, names...); !same(x, y) || a.Size() != b.Size() {
		t.Fatalf("%s:\n%+v\n%+v", what, x, y)
	}
}

// tidy returns a program whose empty lists are nil.
func tidy(l []lang.Node) []lang.Node {
	var out []lang.Node
	for _, n := range l {
		n.Args, n.Body, n.Else = tidy(n.Args), tidy(n.Body), tidy(n.Else)
		out = append(out, n)
	}
	return out
}

// sameProgram reports whether two programs are the same.
func sameProgram(a, b []lang.Node) bool { return reflect.DeepEqual(tidy(a), tidy(b)) }

// dice yields the same numbers in each run of the tests.
type dice uint64

// roll returns a number from 0 to n - 1.
func (d *dice) roll(n int) int {
	*d = *d*6364136223846793005 + 1442695040888963407
	return int(uint64(*d)>>33) % n
}

// often reports true once in n times.
func (d *dice) often(n int) bool { return d.roll(n) == 0 }

// pick returns one of some elements.
func pick[T any](d *dice, l ...T) T { return l[d.roll(len(l))] }
