package coll

import (
	"math/bits"

	"armada/api"
	"armada/comm"
)

// traits are what the operations differ in: which fields of a task they use, and what becomes of values.
type traits struct {
	root  bool // one process has a part of its own
	grid  bool // the processes are in a grid
	wide  bool // there are more slots than parts
	joins bool // values are joined
}

// traitsOf returns the traits of an operation, or false if there is no such operation.
func traitsOf(op int) (traits, bool) {
	switch op {
	case Bcast:
		return traits{root: true}, true
	case Reduce:
		return traits{root: true, joins: true}, true
	case Allreduce, Scan, Barrier:
		return traits{joins: true}, true
	case Gather, Scatter:
		return traits{root: true, wide: true}, true
	case Allgather, Alltoall:
		return traits{wide: true}, true
	case ReduceScatter:
		return traits{wide: true, joins: true}, true
	case Halo:
		return traits{grid: true, wide: true}, true
	}
	return traits{}, false
}

// joins reports whether values are joined in a task.
func (t Task) joins() bool {
	of, _ := traitsOf(t.Op)
	return of.joins
}

// Check checks a task.
func Check(t Task) api.Errno {
	of, ok := traitsOf(t.Op)
	switch {
	case !ok || t.usesOthers(of):
		return api.ErrArg
	case !t.inRange():
		return api.ErrRange
	case of.wide && t.Procs*t.Parts > MaxBlocks:
		return api.ErrMany
	case of.grid && !t.fillsGrid():
		return api.ErrShape
	}
	return api.OK
}

// usesOthers reports whether a task has a value in a field that its operation does not use.
func (t Task) usesOthers(of traits) bool {
	hasGrid := len(t.Grid.Sizes) > 0 || len(t.Grid.Wrap) > 0
	return !of.root && t.Root != 0 || !of.grid && hasGrid
}

// inRange reports whether the numbers of a task are in their ranges. A root that is not used is 0.
func (t Task) inRange() bool {
	most := MaxParts
	if t.Op == Barrier {
		most = 1
	}
	return 1 <= t.Procs && t.Procs <= api.MaxRanks && 1 <= t.Parts && t.Parts <= most && 0 <= t.Root && t.Root < t.Procs
}

// fillsGrid reports whether the grid of a task is valid and has as many ranks as there are processes.
func (t Task) fillsGrid() bool {
	_, last := comm.Coords(t.Grid, t.Procs-1)
	_, next := comm.Coords(t.Grid, t.Procs)
	return last == api.OK && next == api.ErrRank
}

// has reports whether a task has a process.
func (t Task) has(rank int) bool { return 0 <= rank && rank < t.Procs }

// slots returns how many slots each process of a valid task has.
func (t Task) slots() int {
	switch t.Op {
	case Gather, Scatter, Allgather, ReduceScatter:
		return t.Procs * t.Parts
	case Alltoall:
		return 2 * t.Procs * t.Parts
	case Halo:
		return t.Parts * (1 + 2*len(t.Grid.Sizes))
	}
	return t.Parts
}

// Slots returns how many slots each process has.
func Slots(t Task) (int, api.Errno) {
	if e := Check(t); e != api.OK {
		return 0, e
	}
	return t.slots(), api.OK
}

// checkRank checks a task and a process of it.
func checkRank(t Task, rank int) api.Errno {
	e := Check(t)
	if e == api.OK && !t.has(rank) {
		return api.ErrRank
	}
	return e
}

// Initial returns the slots of a process that have values at first.
func Initial(t Task, rank int) ([]int, api.Errno) {
	if e := checkRank(t, rank); e != api.OK {
		return nil, e
	}
	first := t.initial(rank)
	return first.list(), api.OK
}

// initial returns the slots of a process that have values at first.
func (t Task) initial(rank int) run {
	n := t.Parts
	switch {
	case (t.Op == Bcast || t.Op == Scatter) && rank != t.Root:
		return run{}
	case t.Op == Gather || t.Op == Allgather:
		return t.block(rank)
	case t.Op == Alltoall:
		return run{0, t.Procs * n}
	case t.Op == Halo:
		return t.block(0)
	}
	return run{0, t.slots()}
}

// Final returns the slots of a process that have to have values at the end.
func Final(t Task, rank int) ([]int, api.Errno) {
	if e := checkRank(t, rank); e != api.OK {
		return nil, e
	}
	var out []int
	for _, g := range t.goals(rank) {
		out = append(out, g.slot)
	}
	return out, api.OK
}

// run is a number of slots, one after the other.
type run struct{ first, size int }

// block returns the slots of a block.
func (t Task) block(i int) run { return run{i * t.Parts, t.Parts} }

// part returns the slots of a part: a share of the first slots, one for each process.
func (t Task) part(i int) run {
	first := i * t.Parts / t.Procs
	return run{first, (i+1)*t.Parts/t.Procs - first}
}

// list returns the numbers of the slots.
func (r run) list() []int {
	out := make([]int, r.size)
	for i := range out {
		out[i] = r.first + i
	}
	return out
}

// doublings returns the least q for which 2^q is at least n.
func doublings(n int) int { return bits.Len(uint(n - 1)) }

func isPower(n int) bool { return n == 1<<doublings(n) }

func modulo(a, n int) int { return (a%n + n) % n }
