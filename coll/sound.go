package coll

import (
	"cmp"

	"armada/api"
)

// How the value of a step comes into a slot.
const (
	replace = 0
	front   = 1
	behind  = 2
)

// compare compares two steps in the order in which a schedule has them.
func compare(a, b Step) int {
	return cmp.Or(
		cmp.Compare(a.Round, b.Round),
		cmp.Compare(a.From, b.From),
		cmp.Compare(a.To, b.To),
		cmp.Compare(a.Src, b.Src),
		cmp.Compare(a.Dst, b.Dst),
	)
}

// place is a slot of a process.
type place struct{ rank, slot int }

// traffic is what the steps of a round have done so far.
type traffic struct {
	written map[place]bool
	to      map[int]int // to which other process a process sends
	from    map[int]int // from which other process a process receives
}

func newTraffic() traffic {
	return traffic{map[place]bool{}, map[int]int{}, map[int]int{}}
}

// add adds a step to its round.
func (r traffic) add(s Step) api.Errno {
	dst := place{s.To, s.Dst}
	if r.written[dst] {
		return api.ErrHave
	}
	r.written[dst] = true
	if s.From != s.To && (!link(r.to, s.From, s.To) || !link(r.from, s.To, s.From)) {
		return api.ErrState
	}
	return api.OK
}

// link keeps the peer of a process, and reports whether it has no other one.
func link(peers map[int]int, rank, peer int) bool {
	had, ok := peers[rank]
	peers[rank] = peer
	return !ok || had == peer
}

// check checks a step alone.
func (s Step) check(t Task) api.Errno {
	slots := t.slots()
	switch {
	case s.Round < 0 || s.Round >= MaxRounds:
		return api.ErrRange
	case !t.has(s.From) || !t.has(s.To):
		return api.ErrRank
	case s.Src < 0 || s.Src >= slots || s.Dst < 0 || s.Dst >= slots:
		return api.ErrRange
	case s.Join != replace && s.Join != front && s.Join != behind:
		return api.ErrArg
	}
	return api.OK
}

// Sound checks the form of a schedule.
func Sound(s Schedule) api.Errno {
	if e := Check(s.Task); e != api.OK {
		return e
	}
	var round traffic
	for i, x := range s.Steps {
		if e := x.check(s.Task); e != api.OK {
			return e
		}
		if i > 0 && compare(s.Steps[i-1], x) >= 0 {
			return api.ErrArg
		}
		if i == 0 || s.Steps[i-1].Round != x.Round {
			round = newTraffic()
		}
		if e := round.add(x); e != api.OK {
			return e
		}
	}
	return api.OK
}

// Rounds returns the number of rounds.
func Rounds(s Schedule) (int, api.Errno) {
	e := Sound(s)
	if e != api.OK || len(s.Steps) == 0 {
		return 0, e
	}
	return s.Steps[len(s.Steps)-1].Round + 1, api.OK
}
