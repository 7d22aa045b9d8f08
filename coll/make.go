package coll

import (
	"iter"
	"slices"

	"armada/api"
	"armada/comm"
)

// message is what a process sends to another one in a round, or to itself: runs of slots, and how they are joined. Without runs nothing is sent.
type message struct {
	round int
	from  int
	to    int
	join  int
	runs  []move
}

// move is a run of slots whose values come into the slots from dst on.
type move struct {
	src run
	dst int
}

// phase is a number of rounds; send says what a process sends in one of them. The rounds of each phase are numbered from 0 on.
type phase struct {
	rounds int
	send   func(round, from int) message
}

// algorithm is a way in which an operation is done: phases, one after the other.
type algorithm struct {
	powers bool // only for a number of processes that is a power of two
	phases func(t Task) []phase
}

// which is the operation and the number of an algorithm.
type which struct{ op, number int }

// algorithms returns the table of all algorithms.
func algorithms() map[which]algorithm {
	return map[which]algorithm{
		{Bcast, Linear}:           {phases: bcastLinear},
		{Bcast, Tree}:             {phases: bcastTree},
		{Bcast, Chain}:            {phases: bcastChain},
		{Bcast, Split}:            {phases: bcastSplit},
		{Reduce, Linear}:          {phases: reduceLinear},
		{Reduce, Tree}:            {phases: reduceTree},
		{Reduce, Chain}:           {phases: reduceChain},
		{Allreduce, Both}:         {phases: both},
		{Allreduce, Doubling}:     {phases: allreduceDoubling},
		{Allreduce, Ring}:         {phases: allreduceRing},
		{Scan, Linear}:            {phases: scanLinear},
		{Scan, Doubling}:          {phases: scanDoubling},
		{Gather, Linear}:          {phases: gatherLinear},
		{Gather, Tree}:            {phases: gatherTree},
		{Scatter, Linear}:         {phases: scatterLinear},
		{Scatter, Tree}:           {phases: scatterTree},
		{Allgather, Ring}:         {phases: allgatherRing},
		{Allgather, Doubling}:     {powers: true, phases: allgatherDoubling},
		{Allgather, Bruck}:        {phases: allgatherBruck},
		{Alltoall, Pairwise}:      {phases: alltoallPairwise},
		{Alltoall, Bruck}:         {phases: alltoallBruck},
		{Alltoall, Exchange}:      {powers: true, phases: alltoallExchange},
		{ReduceScatter, Ring}:     {phases: reduceScatterRing},
		{ReduceScatter, Pairwise}: {phases: reduceScatterPairwise},
		{ReduceScatter, Halving}:  {powers: true, phases: reduceScatterHalving},
		{Barrier, Ring}:           {phases: barrierRing},
		{Barrier, Both}:           {phases: both},
		{Halo, Ring}:              {phases: haloRing},
	}
}

// find returns an algorithm for a valid task, or false if there is none with this number.
func find(t Task, number int) (algorithm, bool) {
	a, ok := algorithms()[which{t.Op, number}]
	return a, ok && (!a.powers || isPower(t.Procs))
}

// Algorithms returns the algorithms for a task.
func Algorithms(t Task) ([]int, api.Errno) {
	if e := Check(t); e != api.OK {
		return nil, e
	}
	var out []int
	for number := Linear; number <= Halving; number++ {
		if _, ok := find(t, number); ok {
			out = append(out, number)
		}
	}
	return out, api.OK
}

// Make returns the schedule of an algorithm.
func Make(t Task, alg int) (Schedule, api.Errno) {
	if e := Check(t); e != api.OK {
		return Schedule{}, e
	}
	a, ok := find(t, alg)
	if !ok {
		return Schedule{}, api.ErrNone
	}
	t.Grid = comm.Grid{Sizes: slices.Clone(t.Grid.Sizes), Wrap: slices.Clone(t.Grid.Wrap)}
	out := Schedule{Task: t, Alg: alg}
	for s := range steps(t.Procs, a.phases(t)) {
		out.Steps = append(out.Steps, s)
	}
	slices.SortFunc(out.Steps, compare)
	return out, api.OK
}

// steps yields the steps of phases, one phase after the other.
func steps(procs int, l []phase) iter.Seq[Step] {
	return func(yield func(Step) bool) {
		for m := range messages(procs, l) {
			for _, x := range m.runs {
				for i, src := range x.src.list() {
					if !yield(Step{m.round, m.from, m.to, src, x.dst + i, m.join}) {
						return
					}
				}
			}
		}
	}
}

// messages yields what the processes send in phases, one phase after the other.
func messages(procs int, l []phase) iter.Seq[message] {
	return func(yield func(message) bool) {
		first := 0
		for _, f := range l {
			for round := range f.rounds {
				for from := range procs {
					m := f.send(round, from)
					m.round, m.from = first+round, from
					if !yield(m) {
						return
					}
				}
			}
			first += f.rounds
		}
	}
}
