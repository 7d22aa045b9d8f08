package coll

import (
	"armada/api"
	"armada/sum"
)

// Run runs a schedule with values.
func Run(s Schedule, op, kind int, in [][]api.Value) ([][]api.Value, api.Errno) {
	if e := Sound(s); e != api.OK {
		return nil, e
	}
	c, ok := s.right()
	if !ok {
		return nil, api.ErrState
	}
	if e := s.Task.checkValues(op, kind, in); e != api.OK {
		return nil, e
	}
	first := s.Task.values(in)
	out := make([][]api.Value, s.Task.Procs)
	if s.Task.Op == Barrier {
		return out, api.OK
	}
	for rank := range out {
		for _, g := range s.Task.goals(rank) {
			out[rank] = append(out[rank], s.Task.result(op, kind, first, c[rank][g.slot]))
		}
	}
	return out, api.OK
}

// computes reports whether an operation of reductions is done in a task.
func (t Task) computes() bool { return t.joins() && t.Op != Barrier }

// checkValues checks an operation of reductions, and values for the initial slots.
func (t Task) checkValues(op, kind int, in [][]api.Value) api.Errno {
	if !t.computes() {
		if op != 0 || kind != 0 {
			return api.ErrArg
		}
		return t.checkShape(in)
	}
	if e := sum.Check(op, kind); e != api.OK {
		return e
	}
	if e := t.checkShape(in); e != api.OK {
		return e
	}
	for _, row := range in {
		// A scan is the one call that checks values and can be done with none.
		if _, e := sum.Scan(op, kind, row); e != api.OK {
			return e
		}
	}
	return api.OK
}

// checkShape checks whether there is a value for each initial slot.
func (t Task) checkShape(in [][]api.Value) api.Errno {
	if len(in) != t.Procs {
		return api.ErrShape
	}
	for rank, row := range in {
		if len(row) != t.initial(rank).size {
			return api.ErrShape
		}
	}
	return api.OK
}

// values returns the values that were in slots at first.
func (t Task) values(in [][]api.Value) map[Origin]api.Value {
	first := map[Origin]api.Value{}
	for rank, row := range in {
		for i, slot := range t.initial(rank).list() {
			first[Origin{rank, slot}] = row[i]
		}
	}
	return first
}

// result returns the value of a final slot in which a list of origins is.
func (t Task) result(op, kind int, first map[Origin]api.Value, list []Origin) api.Value {
	if !t.computes() {
		return first[list[0]]
	}
	var l []api.Value
	for _, o := range list {
		l = append(l, first[o])
	}
	v, _ := sum.Reduce(op, kind, l)
	return v
}
