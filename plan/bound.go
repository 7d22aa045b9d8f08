package plan

import (
	"iter"
	"slices"

	"armada/api"
	"armada/coll"
	"armada/net"
)

// greatest returns the first element for which a function gives the greatest number, and this number; zero values if there are no elements.
func greatest[T any](l iter.Seq[T], number func(T) int) (T, int) {
	var best T
	most, found := 0, false
	for x := range l {
		if n := number(x); !found || n > most {
			best, most, found = x, n, true
		}
	}
	return best, most
}

// witnesses yields the witnesses of which a bound has the best one.
func (s setting) witnesses() iter.Seq[Witness] {
	return func(yield func(Witness) bool) {
		for _, kind := range []int{In, Out} {
			for rank := range s.task.Procs {
				if !yield(Witness{Kind: kind, Rank: rank}) {
					return
				}
			}
		}
		sides, _ := net.Sides(s.Net)
		for _, side := range sides {
			sides = append(sides, complement(side))
		}
		for _, side := range sides {
			if !yield(Witness{Kind: Cut, Side: side}) {
				return
			}
		}
	}
}

// complement returns the switches that are not in a side.
func complement(side []bool) []bool {
	out := make([]bool, len(side))
	for x, in := range side {
		out[x] = !in
	}
	return out
}

// justified returns the greatest parts of a bound that a number of rounds, a pair and a witness justify.
func (s setting) justified(rounds int, pair [2]int, w Witness) parts {
	words, _ := s.wordsNeeded(w)
	return parts{
		s.roundsNeeded(),
		max(s.hopsNeeded(pair), rounds*s.least()),
		max(words, rounds),
		s.joinsNeeded(),
	}
}

// bound returns the bound of the task.
func (s setting) bound() Low {
	pair, _ := greatest(slices.Values(s.needy), func(pair [2]int) int { return s.distance(pair) })
	w, _ := greatest(s.witnesses(), func(w Witness) int {
		n, _ := s.wordsNeeded(w)
		return n
	})
	p := s.justified(s.roundsNeeded(), pair, w)
	return Low{p[0], p[1], p[2], p[3], p.cost(s.prices()), pair, w}
}

// keeps reports whether a bound is justified. One with too many rounds is not, whatever these would justify.
func (s setting) keeps(l Low) bool {
	p := parts{l.Rounds, l.Hops, l.Words, l.Joins}
	return p.within(s.justified(l.Rounds, l.Pair, l.Witness)) && p.cost(s.prices()) == l.Cost
}

// Bound returns the bound of a task.
func Bound(m Machine, t coll.Task) (Low, api.Errno) {
	s, e := settingOf(m, t)
	if e != api.OK {
		return Low{}, e
	}
	return s.bound(), api.OK
}
