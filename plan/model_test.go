package plan_test

import (
	"slices"

	"armada/api"
	"armada/coll"
	"armada/comm"
	"armada/net"
	"armada/plan"
)

// The model follows the chapter word by word: it looks at all links and at all pairs of processes in each round, and asks of each slot by itself from where it is needed.

// modelCheck is Check.
func modelCheck(m plan.Machine, procs int) api.Errno {
	if net.Check(m.Net) != api.OK {
		return api.ErrArg
	}
	for _, price := range []int{m.Start, m.Hop, m.Word, m.Join} {
		if price < 0 || price > 1000000 {
			return api.ErrRange
		}
	}
	if len(m.Hosts) != procs {
		return api.ErrShape
	}
	_, hosts := size(m.Net)
	for i, host := range m.Hosts {
		if host < 0 || host >= hosts {
			return api.ErrRange
		}
		for _, earlier := range m.Hosts[:i] {
			if earlier == host {
				return api.ErrHave
			}
		}
	}
	return api.OK
}

// modelHome returns the home of a process.
func modelHome(m plan.Machine, rank int) int {
	home, _ := net.Home(m.Net, m.Hosts[rank])
	return home
}

// modelDistance returns the distance of the homes of two processes.
func modelDistance(m plan.Machine, a, b int) int {
	n, _ := net.Distance(m.Net, modelHome(m, a), modelHome(m, b))
	return n
}

// modelCost returns totals with their cost.
func modelCost(m plan.Machine, rounds, hops, words, joins int) plan.Totals {
	cost := m.Start*rounds + m.Hop*hops + m.Word*words + m.Join*joins
	return plan.Totals{Rounds: rounds, Hops: hops, Words: words, Joins: joins, Cost: cost}
}

// sent is a message: how many words go from a process to another one, and on which path.
type sent struct {
	from, to, words int
	path            []int
}

// modelSent returns the messages of a round.
func modelSent(m plan.Machine, s coll.Schedule, round int) []sent {
	var out []sent
	for a := range s.Task.Procs {
		for b := range s.Task.Procs {
			words := 0
			for _, x := range s.Steps {
				words += truth(x.Round == round && x.From == a && x.To == b && a != b)
			}
			if words > 0 {
				path, _ := net.Route(m.Net, modelHome(m, a), modelHome(m, b))
				out = append(out, sent{a, b, words, path})
			}
		}
	}
	return out
}

// takes reports whether a message takes the channel from a switch to another one.
func (s sent) takes(x, y int) bool {
	for i := 1; i < len(s.path); i++ {
		if s.path[i-1] == x && s.path[i] == y {
			return true
		}
	}
	return false
}

// modelRound returns the totals of a round.
func modelRound(m plan.Machine, s coll.Schedule, round int) plan.Totals {
	l := modelSent(m, s, round)
	load := func(counts func(x sent) bool) int {
		sum := 0
		for _, x := range l {
			sum += x.words * truth(counts(x))
		}
		return sum
	}
	hops, words, joins := 0, 0, 0
	for _, x := range l {
		hops = max(hops, len(x.path)-1)
	}
	for _, link := range linksOf(m) {
		words = max(words, load(func(x sent) bool { return x.takes(link.A, link.B) }), load(func(x sent) bool { return x.takes(link.B, link.A) }))
	}
	for rank := range s.Task.Procs {
		words = max(words, load(func(x sent) bool { return x.from == rank }), load(func(x sent) bool { return x.to == rank }))
		joined := 0
		for _, x := range s.Steps {
			joined += truth(x.Round == round && x.To == rank && x.Join != 0)
		}
		joins = max(joins, joined)
	}
	return modelCost(m, truth(len(l) > 0), hops, words, joins)
}

// modelRounds returns the totals of all rounds, and those of the schedule.
func modelRounds(m plan.Machine, s coll.Schedule) ([]plan.Totals, plan.Totals) {
	last := -1
	for _, x := range s.Steps {
		last = max(last, x.Round)
	}
	var l []plan.Totals
	var sum plan.Totals
	for round := range last + 1 {
		x := modelRound(m, s, round)
		l = append(l, x)
		sum = modelCost(m, sum.Rounds+x.Rounds, sum.Hops+x.Hops, sum.Words+x.Words, sum.Joins+x.Joins)
	}
	return l, sum
}

// modelSlots returns the number of slots of each process of a valid task.
func modelSlots(t coll.Task) int {
	n, _ := coll.Slots(t)
	return n
}

// wanted returns the origins that a slot of a process has to have, or has to be joined of, at the end; none if it is not final.
func wanted(t coll.Task, r, slot int) []coll.Origin {
	n := t.Parts
	block, within := slot/n, slot%n
	one := func(rank, slot int, is bool) []coll.Origin {
		if !is {
			return nil
		}
		return []coll.Origin{{Rank: rank, Slot: slot}}
	}
	joined := func(last int, is bool) []coll.Origin {
		var l []coll.Origin
		for rank := 0; rank <= last && is; rank++ {
			l = append(l, coll.Origin{Rank: rank, Slot: slot})
		}
		return l
	}
	switch t.Op {
	case coll.Bcast:
		return one(t.Root, slot, true)
	case coll.Reduce:
		return joined(t.Procs-1, r == t.Root)
	case coll.Allreduce, coll.Barrier:
		return joined(t.Procs-1, true)
	case coll.Scan:
		return joined(r, true)
	case coll.Gather:
		return one(block, slot, r == t.Root)
	case coll.Scatter:
		return one(t.Root, slot, block == r)
	case coll.Allgather:
		return one(block, slot, true)
	case coll.Alltoall:
		return one(block-t.Procs, r*n+within, block >= t.Procs)
	case coll.ReduceScatter:
		return joined(t.Procs-1, block == r)
	}
	if block == 0 {
		return nil
	}
	first, second, _ := comm.Shift(t.Grid, r, (block-1)/2, 1)
	peer := []int{first, second}[(block-1)%2]
	return one(peer, within, peer != api.NoRank)
}

// need is that a final slot of a process has to have, or has to be joined of, a slot of another process.
type need struct {
	by, into int
	from     coll.Origin
}

// modelNeeds returns all that the processes of a task need.
func modelNeeds(t coll.Task) []need {
	var out []need
	for rank := range t.Procs {
		for slot := range modelSlots(t) {
			for _, o := range wanted(t, rank, slot) {
				if o.Rank != rank {
					out = append(out, need{rank, slot, o})
				}
			}
		}
	}
	return out
}

// asked is a task with all that is needed in it, on a machine.
type asked struct {
	m     plan.Machine
	t     coll.Task
	needs []need
}

func ask(m plan.Machine, t coll.Task) asked { return asked{m, t, modelNeeds(t)} }

// needsOf reports whether the process b needs a.
func (q asked) needsOf(a, b int) bool {
	return slices.ContainsFunc(q.needs, func(n need) bool { return n.by == b && n.from.Rank == a })
}

// rounds returns the rounds that are needed.
func (q asked) rounds() int {
	for rounds, power := 0, 1; ; rounds, power = rounds+1, 2*power {
		enough := true
		for a := range q.t.Procs {
			needed, needs := 0, 0
			for b := range q.t.Procs {
				needed += truth(q.needsOf(a, b))
				needs += truth(q.needsOf(b, a))
			}
			enough = enough && needed <= power-1 && needs <= power-1
		}
		if enough {
			return rounds
		}
	}
}

// different returns how many different things there are in what is needed.
func different[T comparable](q asked, thing func(n need) (T, bool)) int {
	var l []T
	for _, n := range q.needs {
		if x, ok := thing(n); ok && !slices.Contains(l, x) {
			l = append(l, x)
		}
	}
	return len(l)
}

// words returns the words that are needed by a witness, or false if it is not one as stated.
func (q asked) words(w plan.Witness) (int, bool) {
	switches, _ := size(q.m.Net)
	joined := isJoined(q.t.Op)
	switch w.Kind {
	case 1:
		if joined {
			return different(q, func(n need) (int, bool) { return n.into, n.by == w.Rank }), w.Rank >= 0 && w.Rank < q.t.Procs
		}
		return different(q, func(n need) (coll.Origin, bool) { return n.from, n.by == w.Rank }), w.Rank >= 0 && w.Rank < q.t.Procs
	case 2:
		return different(q, func(n need) (int, bool) { return n.from.Slot, n.from.Rank == w.Rank }), w.Rank >= 0 && w.Rank < q.t.Procs
	case 3:
		if len(w.Side) != switches {
			return 0, false
		}
		return q.cut(w.Side), true
	}
	return 0, false
}

// cut returns the words that are needed by a side.
func (q asked) cut(side []bool) int {
	links, across := 0, 0
	for _, x := range linksOf(q.m) {
		links += truth(side[x.A] != side[x.B])
	}
	if links == 0 {
		return 0
	}
	goes := func(n need) bool {
		return side[modelHome(q.m, n.by)] && !side[modelHome(q.m, n.from.Rank)]
	}
	if isJoined(q.t.Op) {
		across = different(q, func(n need) (int, bool) { return n.into, goes(n) })
	} else {
		across = different(q, func(n need) (coll.Origin, bool) { return n.from, goes(n) })
	}
	words := 0
	for words*links < across {
		words++
	}
	return words
}

// joins returns the joins that are needed.
func (q asked) joins() int {
	p, n := q.t.Procs, q.t.Parts
	if !isJoined(q.t.Op) {
		return 0
	}
	total := n * (p - 1)
	if q.t.Op == coll.ReduceScatter {
		total = p * n * (p - 1)
	}
	joins := 0
	for 1<<joins < p || joins*p < total {
		joins++
	}
	return joins
}

// least returns the least distance.
func (q asked) least() int {
	least := -1
	for a := range q.t.Procs {
		for b := range q.t.Procs {
			if d := modelDistance(q.m, a, b); a != b && (least < 0 || d < least) {
				least = d
			}
		}
	}
	return max(least, 0)
}

// witnesses returns the witnesses of which a bound has the first one with the most words.
func (q asked) witnesses() []plan.Witness {
	var l []plan.Witness
	for rank := range q.t.Procs {
		l = append(l, in(rank))
	}
	for rank := range q.t.Procs {
		l = append(l, out(rank))
	}
	for _, side := range sidesOf(q.m) {
		l = append(l, cut(side))
	}
	for _, side := range sidesOf(q.m) {
		other := slices.Clone(side)
		for x := range other {
			other[x] = !side[x]
		}
		l = append(l, cut(other))
	}
	return l
}

// bound is Bound.
func (q asked) bound() plan.Low {
	var l plan.Low
	hops := -1
	for a := range q.t.Procs {
		for b := range q.t.Procs {
			if d := modelDistance(q.m, a, b); q.needsOf(a, b) && d > hops {
				hops, l.Pair = d, [2]int{a, b}
			}
		}
	}
	words := -1
	for _, w := range q.witnesses() {
		if n, _ := q.words(w); n > words {
			words, l.Witness = n, w
		}
	}
	l.Rounds = q.rounds()
	l.Hops = max(hops, l.Rounds*q.least())
	l.Words = max(words, l.Rounds)
	l.Joins = q.joins()
	return priced(q.m, l)
}

// keeps reports whether a bound is justified.
func (q asked) keeps(l plan.Low) bool {
	isProcess := func(rank int) bool { return rank >= 0 && rank < q.t.Procs }
	hops := 0
	if a, b := l.Pair[0], l.Pair[1]; isProcess(a) && isProcess(b) && q.needsOf(a, b) {
		hops = modelDistance(q.m, a, b)
	}
	words, ok := q.words(l.Witness)
	if !ok {
		words = 0
	}
	return min(l.Rounds, l.Hops, l.Words, l.Joins) >= 0 && l.Rounds <= q.rounds() && l.Hops <= max(hops, l.Rounds*q.least()) &&
		l.Words <= max(words, l.Rounds) && l.Joins <= q.joins() && l.Cost == priced(q.m, l).Cost
}

// linksOf returns the links of the network of a machine.
func linksOf(m plan.Machine) []net.Link {
	l, _ := net.Links(m.Net)
	return l
}

// sidesOf returns the standard sides of the network of a machine.
func sidesOf(m plan.Machine) [][]bool {
	l, _ := net.Sides(m.Net)
	return l
}
