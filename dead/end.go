package dead

import (
	"slices"

	"armada/api"
	"armada/lang"
)

// End returns behind how many deeds each process comes, with some room for messages.
func End(c [][]lang.Deed, room int) ([]int, api.Errno) {
	s, e := begun(c, room)
	if e != api.OK {
		return nil, e
	}
	s.finish()
	return s.behind, api.OK
}

// Show returns a schedule that leads to the end of a case.
func Show(c [][]lang.Deed, room int) ([]int, api.Errno) {
	s, e := begun(c, room)
	if e != api.OK {
		return nil, e
	}
	return s.finish(), api.OK
}

// Follow returns behind how many deeds each process is after a schedule, and whether no process can go on.
func Follow(c [][]lang.Deed, room int, schedule []int) ([]int, bool, api.Errno) {
	s, e := begun(c, room)
	if e != api.OK {
		return nil, false, e
	}
	for _, p := range schedule {
		switch {
		case p < 0 || p >= len(c):
			return nil, false, api.ErrRank
		case !s.canGoOn(p):
			return nil, false, api.ErrState
		}
		s.goOn(p)
	}
	return s.behind, s.next() < 0, api.OK
}

// Blocks returns the processes that do not come to their ends.
func Blocks(c [][]lang.Deed, room int) ([]Block, api.Errno) {
	s, e := begun(c, room)
	if e != api.OK {
		return nil, e
	}
	s.finish()
	return s.blocks(), api.OK
}

// Cycle returns processes that wait for each other in a circle.
func Cycle(c [][]lang.Deed, room int) ([]int, api.Errno) {
	s, e := begun(c, room)
	if e != api.OK {
		return nil, e
	}
	s.finish()
	for p, next := 0, s.nextBlocked(); p < len(c); p++ {
		if l := circle(next, p); len(l) > 0 {
			return l, api.OK
		}
	}
	return nil, api.OK
}

// begun returns the course of a case that has just begun, or why there is none.
func begun(c [][]lang.Deed, room int) (*course, api.Errno) {
	if e := Check(c); e != api.OK {
		return nil, e
	}
	switch {
	case isOpen(c):
		return nil, api.ErrState
	case room < 0:
		return nil, api.ErrRange
	}
	return start(c, room), api.OK
}

// blocks returns the processes that are not behind all their deeds.
func (s *course) blocks() []Block {
	var l []Block
	for p := range s.deeds {
		if !s.isAtEnd(p) {
			l = append(l, Block{p, s.behind[p], s.waitsFor(p)})
		}
	}
	return l
}

// waitsFor returns the processes for which a process waits that cannot go on, in ascending order.
func (s *course) waitsFor(process int) []int {
	at := s.behind[process]
	switch s.deeds[process][at].Kind {
	case lang.DMeet:
		return s.late(process)
	case lang.DWait:
		at = s.requested(process, at)
	}
	return []int{s.deeds[process][at].Peer}
}

// late returns the processes that have begun fewer meetings than a process.
func (s *course) late(process int) []int {
	var l []int
	for p, n := range s.met {
		if n < s.met[process] {
			l = append(l, p)
		}
	}
	return l
}

// nextBlocked returns, for each process, the least blocked one for which it waits, or a number below 0 if there is none.
func (s *course) nextBlocked() []int {
	next := slices.Repeat([]int{-1}, len(s.deeds))
	for _, b := range s.blocks() {
		i := slices.IndexFunc(b.For, func(p int) bool { return !s.isAtEnd(p) })
		if i >= 0 {
			next[b.Process] = b.For[i]
		}
	}
	return next
}

// circle returns the circle into which the path from a process leads, from its least process on; nothing if the path has an end.
func circle(next []int, p int) []int {
	var path []int
	for ; p >= 0; p = next[p] {
		if i := slices.Index(path, p); i >= 0 {
			return fromLeast(path[i:])
		}
		path = append(path, p)
	}
	return nil
}

// fromLeast turns a circle so that it begins with its least process.
func fromLeast(l []int) []int {
	i := slices.Index(l, slices.Min(l))
	return slices.Concat(l[i:], l[:i])
}
