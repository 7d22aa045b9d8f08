package lang

import "armada/api"

// run is what a run knows of its machine.
type run struct {
	*Machine
	idle []bool  // by process
	ways [][]int // by source: to where packets are on their way, ascending
}

// Run lets processes and the network go on, in an order that a seed says.
func (m *Machine) Run(seed uint64, limit int) (Result, api.Errno) {
	switch {
	case !m.valid():
		return Result{}, api.ErrNil
	case limit < 0 || limit > MaxSteps:
		return Result{}, api.ErrRange
	}
	out := m.run(seed, limit)
	if out.Steps > 0 {
		m.log = appendRun(m.log, seed, out.Steps)
	}
	return out, api.OK
}

func (m *Machine) run(seed uint64, limit int) Result {
	r := m.begin()
	steps := 0
	for ; steps < limit && !m.done(); steps++ {
		ready := r.ready()
		count := len(ready)
		for _, l := range r.ways {
			count += len(l)
		}
		if count == 0 {
			return Result{Stuck: true, Steps: steps}
		}
		seed = seed*6364136223846793005 + 1442695040888963407
		i := int((seed >> 33) % uint64(count))
		if i < len(ready) {
			r.stepOf(ready[i])
		} else {
			r.carry(i - len(ready))
		}
	}
	return Result{Done: m.done(), Steps: steps}
}

// begin returns a run of no steps.
func (m *Machine) begin() *run {
	n := len(m.processes)
	r := &run{m, make([]bool, n), make([][]int, n)}
	for src := range n {
		r.look(src)
	}
	return r
}

// look finds out to where packets of a process are on their way.
func (r *run) look(src int) {
	l := r.ways[src][:0]
	for dst := range r.processes {
		if n, _ := r.world.Under(src, dst); n > 0 {
			l = append(l, dst)
		}
	}
	r.ways[src] = l
}

// isOver reports whether a process has ended or failed.
func (q *process) isOver() bool { return q.kind == Ended || q.kind == Failed }

// done reports whether all processes have ended or failed.
func (m *Machine) done() bool {
	for p := range m.processes {
		if !m.processes[p].isOver() {
			return false
		}
	}
	return true
}

// ready returns the processes that can be tried.
func (r *run) ready() []int {
	var l []int
	for p := range r.processes {
		if !r.processes[p].isOver() && !r.idle[p] {
			l = append(l, p)
		}
	}
	return l
}

// stepOf does a step of a process.
func (r *run) stepOf(p int) {
	if r.step(p) {
		clear(r.idle)
	} else {
		r.idle[p] = true
	}
	r.look(p)
}

// carry lets the first packet arrive that is on its way in a channel; the channels with packets are numbered from 0 on.
func (r *run) carry(i int) {
	src := 0
	for i >= len(r.ways[src]) {
		i -= len(r.ways[src])
		src++
	}
	dst := r.ways[src][i]
	r.deliver(src, dst)
	clear(r.idle)
	r.look(src)
	r.look(dst)
}

// Deliver lets the first packet on its way from one process to another one arrive.
func (m *Machine) Deliver(src, dst int) (bool, api.Errno) {
	if !m.valid() {
		return false, api.ErrNil
	}
	ok, e := m.deliver(src, dst)
	if ok {
		m.log = appendDelivery(m.log, src, dst)
	}
	return ok, e
}

func (m *Machine) deliver(src, dst int) (bool, api.Errno) {
	ok, e := m.world.Deliver(src, dst)
	if ok {
		m.settle(dst)
	}
	return ok, e
}
