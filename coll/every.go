package coll

import "armada/api"

// both joins at the process 0, and sends from there: the Root of its operations is 0.
func both(t Task) []phase {
	return append(reduceTree(t), bcastTree(t)...)
}

// allreduceDoubling joins between members, of which there are as many as the greatest power of two allows; processes beyond it send to a member before, and receive from it afterwards.
func allreduceDoubling(t Task) []phase {
	m := 1 << (doublings(t.Procs+1) - 1)
	e := t.Procs - m
	before := phase{min(e, 1), func(round, r int) message {
		if r >= 2*e || r%2 == 0 {
			return message{}
		}
		return message{to: r - 1, join: behind, runs: t.whole()}
	}}
	between := phase{doublings(m), func(k, r int) message {
		i, ok := memberNumber(r, e)
		if !ok {
			return message{}
		}
		j := i ^ 1<<k
		return message{to: member(j, e), join: inOrder(i, j), runs: t.whole()}
	}}
	after := phase{min(e, 1), func(round, r int) message {
		if r >= 2*e || r%2 == 1 {
			return message{}
		}
		return message{to: r + 1, runs: t.whole()}
	}}
	return []phase{before, between, after}
}

// member returns the process that is a member, if e members have another process beside them.
func member(i, e int) int {
	if i < e {
		return 2 * i
	}
	return i + e
}

// memberNumber returns the number of a process as a member, or false if it is none.
func memberNumber(r, e int) (int, bool) {
	if r >= 2*e {
		return r - e, true
	}
	return r / 2, r%2 == 0
}

// inOrder returns how what a process sends is joined, so that processes stay in order.
func inOrder(from, to int) int {
	if from < to {
		return front
	}
	return behind
}

func allreduceRing(t Task) []phase {
	return []phase{t.ring(0, front, t.part), t.ring(1, replace, t.part)}
}

func scanLinear(t Task) []phase {
	return []phase{{t.Procs - 1, func(round, r int) message {
		if r != round {
			return message{}
		}
		return message{to: r + 1, join: front, runs: t.whole()}
	}}}
}

func scanDoubling(t Task) []phase {
	return []phase{{doublings(t.Procs), func(k, r int) message {
		if r+1<<k >= t.Procs {
			return message{}
		}
		return message{to: r + 1<<k, join: front, runs: t.whole()}
	}}}
}

func allgatherRing(t Task) []phase { return []phase{t.ring(0, replace, t.block)} }

func allgatherDoubling(t Task) []phase {
	return []phase{{doublings(t.Procs), func(k, r int) message {
		first := r >> k << k
		return message{to: r ^ 1<<k, runs: several(first, first+1<<k, t.block)}
	}}}
}

func allgatherBruck(t Task) []phase {
	return []phase{{doublings(t.Procs), func(k, r int) message {
		after := func(i int) run { return t.block(t.next(r, i)) }
		return message{to: t.next(r, -1<<k), runs: several(0, min(1<<k, t.Procs-1<<k), after)}
	}}}
}

// got returns the slots into which a block of all to all comes.
func (t Task) got(i int) run { return t.block(t.Procs + i) }

// exchange sends a block for each of other processes, which peer says, after that for the process itself.
func (t Task) exchange(peer func(round, r int) int) []phase {
	own := local(func(r int) []move { return []move{{t.block(r), t.got(r).first}} })
	others := phase{t.Procs - 1, func(round, r int) message {
		to := peer(round+1, r)
		return message{to: to, runs: []move{{t.block(to), t.got(r).first}}}
	}}
	return []phase{own, others}
}

func alltoallPairwise(t Task) []phase {
	return t.exchange(func(round, r int) int { return t.next(r, round) })
}

func alltoallExchange(t Task) []phase {
	return t.exchange(func(round, r int) int { return r ^ round })
}

// alltoallBruck turns the blocks so that the block i is for the process that is i places after, lets each one go the powers of two of which i is the sum, and turns them back.
func alltoallBruck(t Task) []phase {
	turned := local(func(r int) []move {
		var out []move
		for i := range t.Procs {
			out = append(out, move{t.block(t.next(r, i)), t.got(i).first})
		}
		return out
	})
	gone := phase{doublings(t.Procs), func(k, r int) message {
		var out []run
		for i := range t.Procs {
			if i>>k&1 == 1 {
				out = append(out, t.got(i))
			}
		}
		return message{to: t.next(r, 1<<k), runs: same(out...)}
	}}
	back := local(func(r int) []move {
		var out []move
		for i := range t.Procs {
			out = append(out, move{t.got(t.next(r, -i)), t.got(i).first})
		}
		return out
	})
	return []phase{turned, gone, back}
}

func reduceScatterRing(t Task) []phase { return []phase{t.ring(-1, front, t.block)} }

func reduceScatterPairwise(t Task) []phase {
	return []phase{{t.Procs - 1, func(round, r int) message {
		to := t.next(r, round+1)
		return message{to: to, join: behind, runs: same(t.block(to))}
	}}}
}

func reduceScatterHalving(t Task) []phase {
	return []phase{{doublings(t.Procs), func(k, r int) message {
		h := t.Procs >> (k + 1)
		s := r ^ h
		first := s / h * h
		return message{to: s, join: inOrder(r, s), runs: several(first, first+h, t.block)}
	}}}
}

func barrierRing(t Task) []phase {
	return []phase{{doublings(t.Procs), func(k, r int) message {
		return message{to: t.next(r, 1<<k), join: behind, runs: t.whole()}
	}}}
}

// haloRing sends in each round to the neighbors at one side: first to those after, from which the block of the side before comes.
func haloRing(t Task) []phase {
	return []phase{{t.sides(), func(round, r int) message {
		to := t.neighbor(r, round^1)
		if to == api.NoRank {
			return message{}
		}
		return message{to: to, runs: []move{{t.block(0), t.block(1 + round).first}}}
	}}}
}
