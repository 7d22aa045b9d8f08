package plan

import (
	"iter"
	"math/bits"
	"slices"

	"armada/api"
	"armada/coll"
	"armada/net"
)

// couples yields all pairs of different processes, by the first and then by the second one.
func couples(procs int) iter.Seq[[2]int] {
	return func(yield func([2]int) bool) {
		for a := range procs {
			for b := range procs {
				if a != b && !yield([2]int{a, b}) {
					return
				}
			}
		}
	}
}

// needy returns the pairs of processes of a valid task of which the second one needs the first one, in the order of couples.
func needy(t coll.Task) [][2]int {
	needs := func(a, b int) bool { return true }
	switch t.Op {
	case coll.Bcast, coll.Scatter:
		needs = func(a, b int) bool { return a == t.Root }
	case coll.Reduce, coll.Gather:
		needs = func(a, b int) bool { return b == t.Root }
	case coll.Scan:
		needs = func(a, b int) bool { return a < b }
	case coll.Halo:
		// Neighbors are those between which its one schedule goes.
		near := map[[2]int]bool{}
		s, _ := coll.Make(t, coll.Ring)
		for _, x := range s.Steps {
			near[[2]int{x.From, x.To}] = true
		}
		needs = func(a, b int) bool { return near[[2]int{a, b}] }
	}
	var out [][2]int
	for pair := range couples(t.Procs) {
		if needs(pair[0], pair[1]) {
			out = append(out, pair)
		}
	}
	return out
}

// joins reports whether values are joined in a task.
func joins(t coll.Task) bool {
	switch t.Op {
	case coll.Reduce, coll.Allreduce, coll.Scan, coll.ReduceScatter, coll.Barrier:
		return true
	}
	return false
}

// block is a block of slots of a process.
type block struct{ rank, number int }

// blockOf returns the block of a process that another one needs. Most processes have only one block that others need, which has the number 0 here. Where values are joined, those of all processes come into slots with the same numbers: there the block is of no process.
func blockOf(t coll.Task, pair [2]int) block {
	out := block{rank: pair[0]}
	if joins(t) {
		out.rank = api.NoRank
	}
	switch t.Op {
	case coll.Scatter, coll.Alltoall, coll.ReduceScatter: // each process needs a block of its own
		out.number = pair[1]
	}
	return out
}

// Needs reports whether the process b needs a.
func Needs(t coll.Task, a, b int) (bool, api.Errno) {
	if e := coll.Check(t); e != api.OK {
		return false, e
	}
	if a < 0 || a >= t.Procs || b < 0 || b >= t.Procs {
		return false, api.ErrRange
	}
	return slices.Contains(needy(t), [2]int{a, b}), api.OK
}

// setting is a valid task on a valid machine.
type setting struct {
	layout
	task  coll.Task
	needy [][2]int
}

func settingOf(m Machine, t coll.Task) (setting, api.Errno) {
	if e := coll.Check(t); e != api.OK {
		return setting{}, e
	}
	if e := Check(m, t.Procs); e != api.OK {
		return setting{}, e
	}
	return setting{layoutOf(m), t, needy(t)}, api.OK
}

// roundsNeeded returns the rounds that are needed. In each round, at most twice as many processes as before have something of one process, and one process has something of at most twice as many.
func (s setting) roundsNeeded() int {
	counts := map[[2]int]int{} // by the place in the pair, and the process
	for _, pair := range s.needy {
		for place, rank := range pair {
			counts[[2]int{place, rank}]++
		}
	}
	return bits.Len(uint(mostOf(counts)))
}

// joinsNeeded returns the joins that are needed.
func (s setting) joinsNeeded() int {
	if !joins(s.task) {
		return 0
	}
	p := s.task.Procs
	total := s.task.Parts * (p - 1)
	if s.task.Op == coll.ReduceScatter {
		total *= p
	}
	return max(bits.Len(uint(p-1)), up(total, p))
}

// up returns a quotient, rounded up.
func up(a, b int) int { return (a + b - 1) / b }

// hopsNeeded returns the hops that are needed for a pair of processes; 0 if the second one does not need the first one.
func (s setting) hopsNeeded(pair [2]int) int {
	if !slices.Contains(s.needy, pair) {
		return 0
	}
	return s.distance(pair)
}

// slots returns how many different slots are needed in some of the pairs.
func (s setting) slots(counts func(a, b int) bool) int {
	found := map[block]bool{}
	for _, pair := range s.needy {
		if counts(pair[0], pair[1]) {
			found[blockOf(s.task, pair)] = true
		}
	}
	return len(found) * s.task.Parts
}

// wordsNeeded returns the words that are needed by a witness, or false if it is not one.
func (s setting) wordsNeeded(w Witness) (int, bool) {
	isProcess := 0 <= w.Rank && w.Rank < s.task.Procs
	switch w.Kind {
	case In:
		return s.slots(func(a, b int) bool { return b == w.Rank }), isProcess
	case Out:
		return s.slots(func(a, b int) bool { return a == w.Rank }), isProcess
	case Cut:
		links, e := net.Across(s.Net, w.Side)
		if e != api.OK || links == 0 {
			return 0, e == api.OK
		}
		inside := func(rank int) bool { return w.Side[s.homes[rank]] }
		return up(s.slots(func(a, b int) bool { return !inside(a) && inside(b) }), links), true
	}
	return 0, false
}

// Words returns the words that are needed by a witness.
func Words(m Machine, t coll.Task, w Witness) (int, api.Errno) {
	s, e := settingOf(m, t)
	if e != api.OK {
		return 0, e
	}
	n, ok := s.wordsNeeded(w)
	if !ok {
		return 0, api.ErrArg
	}
	return n, api.OK
}
