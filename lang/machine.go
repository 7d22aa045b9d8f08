package lang

import (
	"maps"
	"slices"

	"armada/api"
	"armada/match"
)

// maxFeed is how many events a process is fed with at most.
const maxFeed = 10000

// Machine runs programs.
type Machine struct {
	eager, credits int
	world          *match.World // nil in a machine that is not valid
	processes      []process
	meetings       map[int]*meeting              // those that some process has not left, by number
	do             map[int]func(*turn) api.Errno // what instructions do
	log            []byte                        // what was done with the machine
}

// process is what a process knows of itself.
type process struct {
	code      []Instr
	kind      int // Ready, Waiting and so on
	at        int
	errno     api.Errno
	stack     []int64
	variables map[string]int64   // all that its program has
	requests  map[string]request // those that are active, by name
	waits     request            // that for which it waits
	begun     int                // how many requests with names there were
	sent      []int              // how many messages it began to send, by destination
	wild      int                // how many receives from any process there were
	met       int                // to how many meetings it has come
	output    []int64
	events    []Event
	deeds     []Deed
	stepped   bool
	forced    []int
	fed       *food // nil if it is not fed
	ate       int   // how many receives with which it is fed it has used
}

// request is a send or a receive that a process has begun.
type request struct {
	id       int // in the world, if the process is not fed
	no       int // among the requests of the process with names
	receive  bool
	variable string // of a receive
	wild     bool   // whether it receives from any process
}

// food is the events with which a process is fed. It is never changed.
type food struct{ receives, meets []Event }

// New returns a machine with some processes: one program for each, or one for all.
func New(programs [][]Node, n, eager, credits int) (*Machine, api.Errno) {
	switch {
	case n < 1 || n > api.MaxRanks:
		return nil, api.ErrRange
	case len(programs) != 1 && len(programs) != n:
		return nil, api.ErrShape
	}
	var codes [][]Instr
	for _, l := range programs {
		c, e := Compile(l)
		if e != api.OK {
			return nil, e
		}
		codes = append(codes, c)
	}
	world, e := match.New(n, eager, credits)
	if e != api.OK {
		return nil, e
	}
	m := &Machine{eager: eager, credits: credits, world: world, meetings: map[int]*meeting{}, do: instructions()}
	for p := range n {
		m.processes = append(m.processes, processOf(codes[p%len(codes)], n))
	}
	return m, api.OK
}

// processOf returns a process before its first step, one of n.
func processOf(code []Instr, n int) process {
	return process{code: code, kind: Ready, variables: variablesOf(code), requests: map[string]request{}, sent: make([]int, n)}
}

// variablesOf returns the variables of a program, in which nothing was stored.
func variablesOf(code []Instr) map[string]int64 {
	names := map[string]int64{}
	for _, in := range code {
		switch in.Op {
		case ILoad, IStore, IRecv, IBcast, IReduce:
			names[in.Name] = 0
		case IIrecv:
			names[in.Other] = 0
		}
	}
	return names
}

func (m *Machine) valid() bool { return m != nil && m.world != nil }

// Size returns how many processes a machine has.
func (m *Machine) Size() int {
	if !m.valid() {
		return 0
	}
	return len(m.processes)
}

// Copy returns an independent machine.
func (m *Machine) Copy() *Machine {
	if !m.valid() {
		return nil
	}
	c := *m
	c.world = m.world.Copy()
	c.log = slices.Clone(m.log)
	c.processes = nil
	for _, q := range m.processes {
		c.processes = append(c.processes, q.copied())
	}
	c.meetings = map[int]*meeting{}
	for k, g := range m.meetings {
		c.meetings[k] = g.copied()
	}
	return &c
}

// copied returns an independent process. It shares its instructions, and what it is forced to and fed with: they are never changed.
func (q process) copied() process {
	q.stack = slices.Clone(q.stack)
	q.variables = maps.Clone(q.variables)
	q.requests = maps.Clone(q.requests)
	q.sent = slices.Clone(q.sent)
	q.output = slices.Clone(q.output)
	q.events = slices.Clone(q.events)
	q.deeds = slices.Clone(q.deeds)
	return q
}

// has reports whether there is a process with this number.
func (m *Machine) has(p int) bool { return p >= 0 && p < len(m.processes) }

// process returns a process of the machine.
func (m *Machine) process(p int) (*process, api.Errno) {
	switch {
	case !m.valid():
		return nil, api.ErrNil
	case !m.has(p):
		return nil, api.ErrRank
	}
	return &m.processes[p], api.OK
}

// Force says from whom a process receives, where it receives from any process.
func (m *Machine) Force(p int, sources []int) api.Errno {
	q, e := m.process(p)
	switch {
	case e != api.OK:
		return e
	case slices.ContainsFunc(sources, func(src int) bool { return !m.has(src) }):
		return api.ErrRank
	case q.stepped:
		return api.ErrState
	}
	q.forced = slices.Clone(sources)
	return api.OK
}

// Feed lets a process go on alone: what it receives, and what meetings result in, is what events say.
func (m *Machine) Feed(p int, l []Event) api.Errno {
	q, e := m.process(p)
	switch {
	case e != api.OK:
		return e
	case len(l) > maxFeed:
		return api.ErrMany
	case q.stepped:
		return api.ErrState
	}
	q.fed = &food{receives: ofKind(l, ERecv), meets: ofKind(l, EMeet)}
	return api.OK
}

// ofKind returns the events of a kind.
func ofKind(l []Event, kind int) []Event {
	var out []Event
	for _, x := range l {
		if x.Kind == kind {
			out = append(out, x)
		}
	}
	return out
}

// State returns the state of a process.
func (m *Machine) State(p int) (State, api.Errno) {
	q, e := m.process(p)
	if e != api.OK {
		return State{}, e
	}
	return State{Kind: q.kind, At: q.at, Errno: q.errno}, api.OK
}

// Output returns what a process has printed.
func (m *Machine) Output(p int) ([]int64, api.Errno) {
	q, e := m.process(p)
	if e != api.OK {
		return nil, e
	}
	return slices.Clone(q.output), api.OK
}

// Var returns the value of a variable of a process.
func (m *Machine) Var(p int, name string) (int64, api.Errno) {
	q, e := m.process(p)
	if e != api.OK {
		return 0, e
	}
	value, ok := q.variables[name]
	if !ok {
		return 0, api.ErrNone
	}
	return value, api.OK
}

// Events returns what a process has done.
func (m *Machine) Events(p int) ([]Event, api.Errno) {
	q, e := m.process(p)
	if e != api.OK {
		return nil, e
	}
	return slices.Clone(q.events), api.OK
}

// Deeds returns what a process has begun.
func (m *Machine) Deeds(p int) ([]Deed, api.Errno) {
	q, e := m.process(p)
	if e != api.OK {
		return nil, e
	}
	return slices.Clone(q.deeds), api.OK
}
