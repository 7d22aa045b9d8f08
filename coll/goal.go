package coll

import (
	"slices"

	"armada/api"
	"armada/comm"
)

// goal is what a final slot has to have: the value of one origin, or the values of some that are joined.
type goal struct {
	slot int
	from []Origin
}

// goals returns what the final slots of a process have to have, in the order of the slots; origins that are joined are in the order of their processes.
func (t Task) goals(rank int) []goal {
	n := t.Parts
	switch {
	case (t.Op == Reduce || t.Op == Gather) && rank != t.Root:
		return nil
	case t.Op == Reduce || t.Op == Allreduce || t.Op == Barrier:
		return goalsIn(run{0, n}, joinedOf(t.Procs))
	case t.Op == Scan:
		return goalsIn(run{0, n}, joinedOf(rank+1))
	case t.Op == ReduceScatter:
		return goalsIn(t.block(rank), joinedOf(t.Procs))
	case t.Op == Bcast:
		return goalsIn(run{0, n}, func(slot int) []Origin { return []Origin{{t.Root, slot}} })
	case t.Op == Scatter:
		return goalsIn(t.block(rank), func(slot int) []Origin { return []Origin{{t.Root, slot}} })
	case t.Op == Alltoall:
		return goalsIn(run{t.Procs * n, t.Procs * n}, func(slot int) []Origin {
			return []Origin{{slot/n - t.Procs, rank*n + slot%n}}
		})
	case t.Op == Halo:
		return t.haloGoals(rank)
	}
	return goalsIn(run{0, t.slots()}, func(slot int) []Origin { return []Origin{{slot / n, slot}} })
}

// goalsIn returns goals for some slots, whose origins a function says.
func goalsIn(slots run, from func(slot int) []Origin) []goal {
	var out []goal
	for _, slot := range slots.list() {
		out = append(out, goal{slot, from(slot)})
	}
	return out
}

// joinedOf returns a function that says the origins of a slot in which the values of the first processes are joined.
func joinedOf(procs int) func(slot int) []Origin {
	return func(slot int) []Origin {
		out := make([]Origin, procs)
		for rank := range out {
			out[rank] = Origin{rank, slot}
		}
		return out
	}
}

// haloGoals returns the goals of a process of a grid: a block of each neighbor.
func (t Task) haloGoals(rank int) []goal {
	var out []goal
	for side := range t.sides() {
		if peer := t.neighbor(rank, side); peer != api.NoRank {
			out = slices.Concat(out, goalsIn(t.block(1+side), func(slot int) []Origin { return []Origin{{peer, slot % t.Parts}} }))
		}
	}
	return out
}

// sides returns how many sides the grid of a task has: two for each dimension.
func (t Task) sides() int { return 2 * len(t.Grid.Sizes) }

// neighbor returns the rank at a side of another one, or NoRank.
func (t Task) neighbor(rank, side int) int {
	before, after, _ := comm.Shift(t.Grid, rank, side/2, 1)
	if side%2 == 0 {
		return before
	}
	return after
}

// met reports whether a list has the origins of a goal, in any order, and no others. After a barrier there can be others.
func (g goal) met(list []Origin, others bool) bool {
	for _, o := range g.from {
		if !slices.Contains(list, o) {
			return false
		}
	}
	return others || len(list) == len(g.from)
}
