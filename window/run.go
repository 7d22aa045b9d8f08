package window

import (
	"iter"
	"slices"

	"armada/api"
)

// run is a run on its way.
type run struct {
	program   *program
	processes []*process
	memory    [][]int64
}

// candidate is what can happen in a run: the next action of a process, or the effect of one before it.
type candidate struct {
	process *process
	index   int
}

// Run runs a program; the seed says what happens first, wherever more than one thing can.
func Run(p Program, seed uint64) (Result, api.Errno) {
	x, e := link(p)
	if e != api.OK {
		return Result{}, e
	}
	r := x.newRun()
	var room []candidate
	candidates := func() []candidate {
		room = slices.AppendSeq(room[:0], r.candidates())
		return room
	}
	for l := candidates(); len(l) > 0; l = candidates() {
		seed = seed*6364136223846793005 + 1442695040888963407
		r.do(l[(seed>>33)%uint64(len(l))])
	}
	return r.result(), api.OK
}

// newRun returns a run in which nothing has happened.
func (x *program) newRun() *run {
	r := &run{program: x}
	for rank, acts := range x.Acts {
		p := x.begin(rank)
		p.returned = make([]int64, len(acts))
		r.processes = append(r.processes, p)
		r.memory = append(r.memory, make([]int64, x.Cells))
	}
	return r
}

// candidates yields what can happen.
func (r *run) candidates() iter.Seq[candidate] {
	return func(yield func(candidate) bool) {
		for _, p := range r.processes {
			if r.can(p) && !yield(candidate{p, p.next}) {
				return
			}
		}
		for _, p := range r.processes {
			for i, index := range p.pending {
				if !p.isKeptBack(i) && !yield(candidate{p, index}) {
					return
				}
			}
		}
	}
}

// can reports whether a process can do its next action.
func (r *run) can(p *process) bool {
	if p.isDone() {
		return false
	}
	k := p.kind()
	return (!k.completes || p.isComplete()) && (k.ready == nil || k.ready(r, p, p.act()))
}

// isComplete reports whether all accesses of a process have taken effect. Before an action that completes accesses only those of its epoch can be pending.
func (p *process) isComplete() bool { return len(p.pending) == 0 }

// isKeptBack reports whether an update that is pending has to wait for another one.
func (p *process) isKeptBack(i int) bool {
	index := p.pending[i]
	return p.isUpdate(index) && slices.ContainsFunc(p.pending[:i], func(earlier int) bool {
		return p.isUpdate(earlier) && p.cellOf(earlier) == p.cellOf(index)
	})
}

func (p *process) isUpdate(index int) bool { return p.table[p.acts[index].Kind].update }

// meets reports whether a condition is true for each place for which the next action of a process waits, and the process of this place.
func (r *run) meets(p *process, condition func(q *process, index int) bool) bool {
	n := r.program.needs[p.rank][p.next]
	for _, at := range n.places {
		if !condition(r.processes[at.Rank], at.Index) {
			return false
		}
	}
	return !n.lacks
}

// hears reports whether all that a process waits for was done.
func (r *run) hears(p *process, _ Act) bool {
	return r.meets(p, func(q *process, index int) bool { return q.next > index })
}

// gathers reports whether all other processes have come to a fence.
func (r *run) gathers(p *process, _ Act) bool {
	return r.meets(p, func(q *process, index int) bool {
		return q.next > index || q.next == index && q.isComplete()
	})
}

// grants reports whether a window can be locked, or shared.
func (r *run) grants(_ *process, a Act) bool {
	return !slices.ContainsFunc(r.processes, func(q *process) bool {
		return q.locks(a) && (q.hold == Lock || a.Kind == Lock)
	})
}

// do does a candidate.
func (r *run) do(c candidate) {
	p := c.process
	if c.index < p.next {
		i := slices.Index(p.pending, c.index)
		p.pending = slices.Delete(p.pending, i, i+1)
		r.access(p, c.index)
		return
	}
	if k := p.kind(); k.isRemote() {
		p.pending = append(p.pending, p.next)
	} else if k.effect != nil {
		r.access(p, p.next)
	}
	p.step()
}

// access lets an access take effect.
func (r *run) access(p *process, index int) {
	at, a := p.cellOf(index), p.acts[index]
	before := &r.memory[at.rank][at.at]
	p.returned[index] = *before
	*before = p.table[a.Kind].effect(*before, a)
}

// result returns what a run has left behind at its end, when nothing is pending.
func (r *run) result() Result {
	out := Result{Memory: r.memory}
	for rank, p := range r.processes {
		var values []int64
		for index, a := range p.acts[:p.next] {
			if p.table[a.Kind].returns {
				values = append(values, p.returned[index])
			}
		}
		out.Values = append(out.Values, values)
		if !p.isDone() {
			out.Stuck = append(out.Stuck, rank)
		}
	}
	return out
}
