package plan

import (
	"iter"

	"armada/api"
	"armada/coll"
)

// parts are what a cost is made of: rounds, hops, words and joins; or something for each of these, as their prices.
type parts [4]int

func (m Machine) prices() parts { return parts{m.Start, m.Hop, m.Word, m.Join} }

func (p parts) plus(q parts) parts {
	for i := range p {
		p[i] += q[i]
	}
	return p
}

// cost returns what the parts cost.
func (p parts) cost(prices parts) int {
	sum := 0
	for i := range p {
		sum += p[i] * prices[i]
	}
	return sum
}

// within reports whether the parts are from 0 to some greatest ones.
func (p parts) within(most parts) bool {
	near := p
	for i := range near {
		near[i] = min(max(p[i], 0), most[i])
	}
	return near == p
}

// totals returns parts with their cost.
func (m Machine) totals(p parts) Totals {
	return Totals{p[0], p[1], p[2], p[3], p.cost(m.prices())}
}

// runs yields the runs of neighbors in a list that are alike.
func runs[T any](l []T, alike func(a, b T) bool) iter.Seq[[]T] {
	return func(yield func([]T) bool) {
		first := 0
		for i := range l {
			if i+1 < len(l) && alike(l[i], l[i+1]) {
				continue
			}
			if !yield(l[first : i+1]) {
				return
			}
			first = i + 1
		}
	}
}

// inRounds yields the steps of each round. The steps of a schedule are sorted.
func inRounds(l []coll.Step) iter.Seq[[]coll.Step] {
	return runs(l, func(a, b coll.Step) bool { return a.Round == b.Round })
}

// messages yields the steps of each message of a round.
func messages(round []coll.Step) iter.Seq[[]coll.Step] {
	alike := func(a, b coll.Step) bool { return a.From == b.From && a.To == b.To }
	return func(yield func([]coll.Step) bool) {
		for m := range runs(round, alike) {
			if m[0].From != m[0].To && !yield(m) {
				return
			}
		}
	}
}

// channel is a link of the network with a direction.
type channel struct{ from, to int }

// round returns the parts of the cost of a round. A process sends at most one message in it, and receives at most one, so that its load is that of a message.
func (l layout) round(steps []coll.Step) parts {
	loads, joins := map[channel]int{}, map[int]int{}
	rounds, hops, words := 0, 0, 0
	for m := range messages(steps) {
		path := l.path(m[0].From, m[0].To)
		rounds = 1
		hops = max(hops, len(path)-1)
		words = max(words, len(m))
		for i := range len(path) - 1 {
			loads[channel{path[i], path[i+1]}] += len(m)
		}
	}
	for _, s := range steps {
		if s.Join != 0 {
			joins[s.To]++
		}
	}
	return parts{rounds, hops, max(words, mostOf(loads)), mostOf(joins)}
}

// mostOf returns the greatest number in a map of numbers above 0, or 0 if there is none.
func mostOf[K comparable](counts map[K]int) int {
	most := 0
	for _, n := range counts {
		most = max(most, n)
	}
	return most
}

// measure returns the totals of steps.
func (l layout) measure(steps []coll.Step) Totals {
	var sum parts
	for round := range inRounds(steps) {
		sum = sum.plus(l.round(round))
	}
	return l.totals(sum)
}

// checkBoth checks a schedule and the machine for it, and returns the number of rounds.
func checkBoth(m Machine, s coll.Schedule) (int, api.Errno) {
	rounds, e := coll.Rounds(s)
	if e != api.OK {
		return 0, e
	}
	return rounds, Check(m, s.Task.Procs)
}

// Measure returns the totals of a schedule.
func Measure(m Machine, s coll.Schedule) (Totals, api.Errno) {
	if _, e := checkBoth(m, s); e != api.OK {
		return Totals{}, e
	}
	return layoutOf(m).measure(s.Steps), api.OK
}

// Rounds returns the totals of each round of a schedule.
func Rounds(m Machine, s coll.Schedule) ([]Totals, api.Errno) {
	rounds, e := checkBoth(m, s)
	if e != api.OK {
		return nil, e
	}
	l := layoutOf(m)
	out := make([]Totals, rounds)
	for round := range inRounds(s.Steps) {
		out[round[0].Round] = l.measure(round)
	}
	return out, api.OK
}
