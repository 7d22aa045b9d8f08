package coll_test

import (
	"maps"
	"slices"

	"armada/api"
	"armada/coll"
	"armada/comm"
)

// The model follows the chapter word by word, and asks of each slot by itself what the package finds in runs of slots.

// modelCheck is Check.
func modelCheck(t coll.Task) api.Errno {
	usesGrid := t.Op == coll.Halo
	if t.Op < 1 || t.Op > operations || !hasRoot(t.Op) && t.Root != 0 || !usesGrid && len(t.Grid.Sizes)+len(t.Grid.Wrap) > 0 {
		return api.ErrArg
	}
	if t.Procs < 1 || t.Procs > 64 || t.Parts < 1 || t.Parts > 16 || t.Root < 0 || t.Root >= t.Procs || t.Op == coll.Barrier && t.Parts != 1 {
		return api.ErrRange
	}
	if isWide(t.Op) && t.Procs*t.Parts > 256 {
		return api.ErrMany
	}
	if usesGrid && gridRanks(t.Grid) != t.Procs {
		return api.ErrShape
	}
	return api.OK
}

// gridRanks returns how many ranks a grid has, or 0 if it is not valid.
func gridRanks(g comm.Grid) int {
	if len(g.Sizes) < 1 || len(g.Sizes) > 4 || len(g.Sizes) != len(g.Wrap) {
		return 0
	}
	ranks := 1.0
	for _, size := range g.Sizes {
		if size < 1 {
			return 0
		}
		ranks *= float64(size)
	}
	if ranks > 64 {
		return 0
	}
	return int(ranks)
}

// modelSlots returns the number of slots of a valid task.
func modelSlots(t coll.Task) int {
	switch t.Op {
	case coll.Gather, coll.Scatter, coll.Allgather, coll.ReduceScatter:
		return t.Procs * t.Parts
	case coll.Alltoall:
		return 2 * t.Procs * t.Parts
	case coll.Halo:
		return t.Parts * (1 + 2*len(t.Grid.Sizes))
	}
	return t.Parts
}

// isInitial reports whether a slot of a process has a value at first.
func isInitial(t coll.Task, r, slot int) bool {
	block := slot / t.Parts
	switch t.Op {
	case coll.Bcast, coll.Scatter:
		return r == t.Root
	case coll.Gather, coll.Allgather:
		return block == r
	case coll.Alltoall:
		return block < t.Procs
	case coll.Halo:
		return block == 0
	}
	return true
}

// wanted returns the origins that a slot of a process has to have at the end; none if it is not final.
func wanted(t coll.Task, r, slot int) []coll.Origin {
	n := t.Parts
	block, within := slot/n, slot%n
	var out []coll.Origin
	one := func(rank, slot int, is bool) {
		if is {
			out = append(out, coll.Origin{Rank: rank, Slot: slot})
		}
	}
	joined := func(last int, is bool) {
		for rank := 0; rank <= last; rank++ {
			one(rank, slot, is)
		}
	}
	switch t.Op {
	case coll.Bcast:
		one(t.Root, slot, true)
	case coll.Reduce:
		joined(t.Procs-1, r == t.Root)
	case coll.Allreduce, coll.Barrier:
		joined(t.Procs-1, true)
	case coll.Scan:
		joined(r, true)
	case coll.Gather:
		one(block, slot, r == t.Root)
	case coll.Scatter:
		one(t.Root, slot, block == r)
	case coll.Allgather:
		one(block, slot, true)
	case coll.Alltoall:
		one(block-t.Procs, r*n+within, block >= t.Procs)
	case coll.ReduceScatter:
		joined(t.Procs-1, block == r)
	case coll.Halo:
		if block > 0 {
			first, second, _ := comm.Shift(t.Grid, r, (block-1)/2, 1)
			peer := []int{first, second}[(block-1)%2]
			one(peer, within, peer != api.NoRank)
		}
	}
	return out
}

// modelSound is Sound: it looks at all earlier steps for each step.
func modelSound(s coll.Schedule) api.Errno {
	if e := modelCheck(s.Task); e != api.OK {
		return e
	}
	p, slots := s.Task.Procs, modelSlots(s.Task)
	for i, x := range s.Steps {
		switch {
		case x.Round < 0 || x.Round > 255:
			return api.ErrRange
		case min(x.From, x.To) < 0 || max(x.From, x.To) >= p:
			return api.ErrRank
		case min(x.Src, x.Dst) < 0 || max(x.Src, x.Dst) >= slots:
			return api.ErrRange
		case x.Join < 0 || x.Join > 2:
			return api.ErrArg
		case i > 0 && slices.Compare(key(s.Steps[i-1]), key(x)) >= 0:
			return api.ErrArg
		}
		for _, y := range s.Steps[:i] {
			if y.Round == x.Round && y.To == x.To && y.Dst == x.Dst {
				return api.ErrHave
			}
		}
		for _, y := range s.Steps[:i] {
			if y.Round != x.Round || x.From == x.To {
				continue
			}
			if y.From == x.From && y.To != x.To && y.To != x.From || y.To == x.To && y.From != x.From && y.From != x.To {
				return api.ErrState
			}
		}
	}
	return api.OK
}

func key(s coll.Step) []int { return []int{s.Round, s.From, s.To, s.Src, s.Dst} }

// modelTrace returns what is in each slot at the end of a sound schedule, or false if a step is not possible.
func modelTrace(s coll.Schedule) (map[coll.Origin][]coll.Origin, bool) {
	now := map[coll.Origin][]coll.Origin{}
	for r := range s.Task.Procs {
		for slot := range modelSlots(s.Task) {
			if isInitial(s.Task, r, slot) {
				o := coll.Origin{Rank: r, Slot: slot}
				now[o] = []coll.Origin{o}
			}
		}
	}
	rounds := 0
	if len(s.Steps) > 0 {
		rounds = s.Steps[len(s.Steps)-1].Round + 1
	}
	for round := range rounds {
		before := maps.Clone(now)
		for _, x := range s.Steps {
			if x.Round != round {
				continue
			}
			src, dst := before[coll.Origin{Rank: x.From, Slot: x.Src}], before[coll.Origin{Rank: x.To, Slot: x.Dst}]
			after := [][]coll.Origin{src, slices.Concat(src, dst), slices.Concat(dst, src)}[x.Join]
			if len(src) == 0 || len(after) > 128 {
				return nil, false
			}
			now[coll.Origin{Rank: x.To, Slot: x.Dst}] = after
		}
	}
	return now, true
}

// modelRight reports whether a sound schedule is right, and whether it is ordered.
func modelRight(s coll.Schedule) (right, ordered bool) {
	now, ok := modelTrace(s)
	if !ok {
		return false, false
	}
	right, ordered = true, s.Task.Op != coll.Barrier
	for r := range s.Task.Procs {
		for slot := range modelSlots(s.Task) {
			want := wanted(s.Task, r, slot)
			if len(want) == 0 {
				continue
			}
			there := now[coll.Origin{Rank: r, Slot: slot}]
			sorted := slices.Clone(there)
			slices.SortFunc(sorted, func(a, b coll.Origin) int { return a.Rank - b.Rank })
			if s.Task.Op == coll.Barrier {
				sorted = slices.Compact(sorted)
			}
			right = right && slices.Equal(sorted, want)
			ordered = ordered && slices.Equal(there, want)
		}
	}
	return right, right && ordered
}

// powers returns how many times a number has 2^k, and what is left.
func powers(v, k int) (times, left int) { return v >> k, v & (1<<k - 1) }

// look is a question: whether in a round the process r sends its slot x to the process s.
type look struct {
	n, p, q, root, t, r, s, x int
}

// around returns a number modulo p.
func (l look) around(a int) int {
	for a < 0 {
		a += l.p
	}
	return a % l.p
}

// relatives returns the relative numbers of both processes.
func (l look) relatives() (int, int) { return l.around(l.r - l.root), l.around(l.s - l.root) }

// inPart reports whether the slot is in a part.
func (l look) inPart(i int) bool { return i*l.n/l.p <= l.x && l.x <= (i+1)*l.n/l.p-1 }

// block is the block of the slot.
func (l look) block() int { return l.x / l.n }

// later returns the question for a round of a phase that begins after some rounds, and whether it has begun.
func (l look) later(rounds int) (look, bool) {
	l.t -= rounds
	return l, l.t >= 0
}

// modelSends says into which slot the slot is sent, and how it is joined; false if it is not sent.
func modelSends(op, alg int, l look, g comm.Grid) (dst, join int, ok bool) {
	if l.p == 1 && alg == coll.Chain {
		return 0, 0, false
	}
	v, w := l.relatives()
	switch [2]int{op, alg} {
	case [2]int{coll.Bcast, coll.Linear}:
		return l.x, 0, v == 0 && w == l.t+1
	case [2]int{coll.Bcast, coll.Tree}:
		return l.x, 0, l.treeDown(v, w)
	case [2]int{coll.Bcast, coll.Chain}:
		return l.x, 0, w == v+1 && l.x == l.t-v
	case [2]int{coll.Bcast, coll.Split}:
		return l.x, 0, l.split(v, w, l.inPart) || l.ringOfParts(v, w)
	case [2]int{coll.Reduce, coll.Linear}:
		return l.x, l.linearJoin(), l.s == l.root && (l.t < l.root && l.r == l.root-1-l.t || l.t >= l.root && l.r == l.t+1)
	case [2]int{coll.Reduce, coll.Tree}:
		return l.x, 2, l.treeUp(v, w)
	case [2]int{coll.Reduce, coll.Chain}:
		return l.x, 2, w == v-1 && l.x == l.t-(l.p-1-v)
	case [2]int{coll.Allreduce, coll.Both}, [2]int{coll.Barrier, coll.Both}:
		if m, ok := l.later(l.q); ok {
			return l.x, 0, m.treeDown(l.r, l.s)
		}
		return l.x, 2, l.treeUp(l.r, l.s)
	case [2]int{coll.Allreduce, coll.Doubling}:
		join, ok := l.doubling()
		return l.x, join, ok
	case [2]int{coll.Allreduce, coll.Ring}:
		if m, ok := l.later(l.p - 1); ok {
			return l.x, 0, m.t <= l.p-2 && m.s == m.around(m.r+1) && m.inPart(m.around(m.r+1-m.t))
		}
		return l.x, 1, l.s == l.around(l.r+1) && l.inPart(l.around(l.r-l.t))
	case [2]int{coll.Scan, coll.Linear}:
		return l.x, 1, l.r == l.t && l.s == l.t+1
	case [2]int{coll.Scan, coll.Doubling}:
		return l.x, 1, l.t < l.q && l.s == l.r+1<<l.t
	case [2]int{coll.Gather, coll.Linear}:
		return l.x, 0, w == 0 && v == l.t+1 && l.block() == l.r
	case [2]int{coll.Gather, coll.Tree}:
		u := l.around(l.block() - l.root)
		return l.x, 0, l.treeUp(v, w) && v <= u && u <= v+1<<l.t-1
	case [2]int{coll.Scatter, coll.Linear}:
		return l.x, 0, v == 0 && w == l.t+1 && l.block() == l.s
	case [2]int{coll.Scatter, coll.Tree}:
		return l.x, 0, l.split(v, w, func(i int) bool { return l.block() == l.around(i+l.root) })
	}
	return l.modelSendsWide(op, alg, g)
}

// modelSendsWide is modelSends for the operations in which each process has a block.
func (l look) modelSendsWide(op, alg int, g comm.Grid) (dst, join int, ok bool) {
	b, within := l.block(), l.x%l.n
	next := l.s == l.around(l.r+1) && l.t <= l.p-2
	inRounds := l.t < l.q
	into := func(block int) int { return block*l.n + within }
	switch [2]int{op, alg} {
	case [2]int{coll.Allgather, coll.Ring}:
		return l.x, 0, next && b == l.around(l.r-l.t)
	case [2]int{coll.Allgather, coll.Doubling}:
		first := l.r &^ (1<<l.t - 1)
		return l.x, 0, inRounds && l.s == l.r^1<<l.t && first <= b && b < first+1<<l.t
	case [2]int{coll.Allgather, coll.Bruck}:
		i := l.around(b - l.r)
		return l.x, 0, inRounds && l.s == l.around(l.r-1<<l.t) && i <= min(1<<l.t, l.p-1<<l.t)-1
	case [2]int{coll.Alltoall, coll.Pairwise}, [2]int{coll.Alltoall, coll.Exchange}:
		to := l.around(l.r + l.t)
		if alg == coll.Exchange {
			to = l.r ^ l.t
		}
		return into(l.p + l.r), 0, l.t < l.p && l.s == to && b == to
	case [2]int{coll.Alltoall, coll.Bruck}:
		i := b - l.p
		switch {
		case l.t == 0:
			return into(l.p + l.around(b-l.r)), 0, l.r == l.s && b < l.p
		case l.t == l.q+1:
			return into(l.p + l.around(l.r-i)), 0, l.r == l.s && i >= 0
		}
		return l.x, 0, l.t <= l.q && l.s == l.around(l.r+1<<(l.t-1)) && i >= 0 && i&(1<<(l.t-1)) != 0
	case [2]int{coll.ReduceScatter, coll.Ring}:
		return l.x, 1, next && b == l.around(l.r-l.t-1)
	case [2]int{coll.ReduceScatter, coll.Pairwise}:
		return l.x, 2, l.t <= l.p-2 && l.s == l.around(l.r+l.t+1) && b == l.s
	case [2]int{coll.ReduceScatter, coll.Halving}:
		if !inRounds {
			return 0, 0, false
		}
		h := l.p / (1 << (l.t + 1))
		return l.x, order(l.r, l.s), l.s == l.r^h && b/h == l.s/h
	case [2]int{coll.Barrier, coll.Ring}:
		return l.x, 2, inRounds && l.s == l.around(l.r+1<<l.t)
	case [2]int{coll.Halo, coll.Ring}:
		if l.t >= 2*len(g.Sizes) {
			return 0, 0, false
		}
		first, second, _ := comm.Shift(g, l.r, l.t/2, 1)
		return into(1 + l.t), 0, b == 0 && l.s == []int{second, first}[l.t%2]
	}
	return 0, 0, false
}

// order returns the Join with which processes stay in order.
func order(r, s int) int {
	if r < s {
		return 1
	}
	return 2
}

// linearJoin returns the Join of a round of Reduce Linear.
func (l look) linearJoin() int {
	if l.t < l.root {
		return 1
	}
	return 2
}

func (l look) treeDown(v, w int) bool { return l.t < l.q && v < 1<<l.t && w == v+1<<l.t }

func (l look) treeUp(v, w int) bool {
	if l.t >= l.q {
		return false
	}
	_, left := powers(v, l.t+1)
	return left == 1<<l.t && w == v-left
}

// split reports whether the first phase of Bcast Split sends something of relative numbers, of which in says whether they have the slot.
func (l look) split(v, w int, in func(i int) bool) bool {
	if l.t >= l.q {
		return false
	}
	h := 1 << (l.q - 1 - l.t)
	if v%(2*h) != 0 || w != v+h {
		return false
	}
	for i := v + h; i <= v+2*h-1 && i < l.p; i++ {
		if in(i) {
			return true
		}
	}
	return false
}

// ringOfParts is the second phase of Bcast Split.
func (l look) ringOfParts(v, w int) bool {
	m, ok := l.later(l.q)
	return ok && m.t <= m.p-2 && w == m.around(v+1) && m.inPart(m.around(v-m.t))
}

// doubling is Allreduce Doubling.
func (l look) doubling() (int, bool) {
	m, levels := 1, 0
	for 2*m <= l.p {
		m *= 2
		levels++
	}
	e := l.p - m
	var members []int
	for i := range m {
		if i < e {
			members = append(members, 2*i)
		} else {
			members = append(members, i+e)
		}
	}
	low := min(l.r, l.s)
	beside := max(l.r, l.s) == low+1 && low%2 == 0 && low/2 < e
	if e > 0 {
		if l.t == 0 {
			return 2, beside && l.s == low
		}
		l.t--
	}
	i, j := slices.Index(members, l.r), slices.Index(members, l.s)
	switch {
	case l.t < levels:
		return order(i, j), i >= 0 && j >= 0 && i^j == 1<<l.t
	case e > 0 && l.t == levels:
		return 0, beside && l.r == low
	}
	return 0, false
}

// modelMake returns the steps of an algorithm.
func modelMake(t coll.Task, alg int) []coll.Step {
	var out []coll.Step
	slots, q := modelSlots(t), doublings(t.Procs)
	for round := range 2*t.Procs + t.Parts + 8 {
		for r := range t.Procs {
			for s := range t.Procs {
				for x := range slots {
					l := look{t.Parts, t.Procs, q, t.Root, round, r, s, x}
					if dst, join, ok := modelSends(t.Op, alg, l, t.Grid); ok {
						out = append(out, coll.Step{Round: round, From: r, To: s, Src: x, Dst: dst, Join: join})
					}
				}
			}
		}
	}
	return out
}

// modelAlgorithms returns the algorithms of an operation for a number of processes.
func modelAlgorithms(op, procs int) []int {
	l := map[int][]int{
		coll.Bcast:         {coll.Linear, coll.Tree, coll.Chain, coll.Split},
		coll.Reduce:        {coll.Linear, coll.Tree, coll.Chain},
		coll.Allreduce:     {coll.Both, coll.Doubling, coll.Ring},
		coll.Scan:          {coll.Linear, coll.Doubling},
		coll.Gather:        {coll.Linear, coll.Tree},
		coll.Scatter:       {coll.Linear, coll.Tree},
		coll.Allgather:     {coll.Doubling, coll.Ring, coll.Bruck},
		coll.Alltoall:      {coll.Bruck, coll.Pairwise, coll.Exchange},
		coll.ReduceScatter: {coll.Ring, coll.Pairwise, coll.Halving},
		coll.Barrier:       {coll.Both, coll.Ring},
		coll.Halo:          {coll.Ring},
	}[op]
	if slices.Contains([]int{1, 2, 4, 8, 16, 32, 64}, procs) {
		return l
	}
	onlyPowers := map[int]int{coll.Allgather: coll.Doubling, coll.Alltoall: coll.Exchange, coll.ReduceScatter: coll.Halving}
	return slices.DeleteFunc(l, func(alg int) bool { return onlyPowers[op] == alg })
}
