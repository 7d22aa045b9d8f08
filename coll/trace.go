package coll

import (
	"iter"
	"slices"

	"armada/api"
)

// contents are what is in the slots of each process. Lists are shared by slots, and never changed.
type contents [][][]Origin

// begin returns what is in the slots of a task at first.
func begin(t Task) contents {
	c := make(contents, t.Procs)
	for rank := range c {
		c[rank] = make([][]Origin, t.slots())
		for _, slot := range t.initial(rank).list() {
			c[rank][slot] = []Origin{{rank, slot}}
		}
	}
	return c
}

// joined returns a list after another one came to it, or false if that is not possible.
func joined(there, comes []Origin, join int) ([]Origin, bool) {
	switch join {
	case front:
		there = append(slices.Clone(comes), there...)
	case behind:
		there = append(slices.Clone(there), comes...)
	default:
		there = comes
	}
	return there, len(comes) > 0 && len(there) <= MaxOrigins
}

// do does the steps of a round, all of them with what is there before it, and reports whether they are possible.
func (c contents) do(l []Step) bool {
	after := make([][]Origin, len(l))
	for i, s := range l {
		list, ok := joined(c[s.To][s.Dst], c[s.From][s.Src], s.Join)
		if !ok {
			return false
		}
		after[i] = list
	}
	for i, s := range l {
		c[s.To][s.Dst] = after[i]
	}
	return true
}

// byRound yields the steps of each round.
func byRound(l []Step) iter.Seq[[]Step] {
	return func(yield func([]Step) bool) {
		for len(l) > 0 {
			end := slices.IndexFunc(l, func(s Step) bool { return s.Round != l[0].Round })
			if end < 0 {
				end = len(l)
			}
			if !yield(l[:end]) {
				return
			}
			l = l[end:]
		}
	}
}

// follow returns what is in the slots after all steps of a sound schedule, or false if a step is not possible.
func (s Schedule) follow() (contents, bool) {
	c := begin(s.Task)
	for l := range byRound(s.Steps) {
		if !c.do(l) {
			return nil, false
		}
	}
	return c, true
}

// copied returns a copy of which no two lists share memory.
func (c contents) copied() [][][]Origin {
	out := make([][][]Origin, len(c))
	for rank, slots := range c {
		out[rank] = make([][]Origin, len(slots))
		for slot, list := range slots {
			out[rank][slot] = slices.Clone(list)
		}
	}
	return out
}

// Trace returns what is in the slots at the end.
func Trace(s Schedule) ([][][]Origin, api.Errno) {
	if e := Sound(s); e != api.OK {
		return nil, e
	}
	c, ok := s.follow()
	if !ok {
		return nil, api.ErrState
	}
	return c.copied(), api.OK
}

// right returns what is in the slots after all steps of a sound schedule, or false if it is not right.
func (s Schedule) right() (contents, bool) {
	c, ok := s.follow()
	if !ok {
		return nil, false
	}
	met := func(list []Origin, g goal) bool { return g.met(list, s.Task.Op == Barrier) }
	return c, c.all(s.Task, met)
}

// all reports whether something is true for each final slot: for what is in it, and what has to be.
func (c contents) all(t Task, is func(list []Origin, g goal) bool) bool {
	for rank := range c {
		for _, g := range t.goals(rank) {
			if !is(c[rank][g.slot], g) {
				return false
			}
		}
	}
	return true
}

// Right reports whether a schedule gives the declared result.
func Right(s Schedule) (bool, api.Errno) {
	if e := Sound(s); e != api.OK {
		return false, e
	}
	_, ok := s.right()
	return ok, api.OK
}

// Ordered reports whether a schedule joins in the order of the processes.
func Ordered(s Schedule) (bool, api.Errno) {
	if e := Sound(s); e != api.OK {
		return false, e
	}
	c, ok := s.right()
	ascending := func(list []Origin, g goal) bool { return slices.Equal(list, g.from) }
	return ok && s.Task.Op != Barrier && c.all(s.Task, ascending), api.OK
}
