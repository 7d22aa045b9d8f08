package dead

import (
	"slices"

	"armada/lang"
)

// way leads from a process to another one, or to itself.
type way struct{ from, to int }

// course is how far a case without receives from any process went on, with some room.
type course struct {
	deeds    [][]lang.Deed
	room     int
	behind   []int                              // by process: how many deeds it is behind
	met      []int                              // by process: how many meetings it has begun
	requests [][]int                            // by process and request: the place of its deed
	matched  [][]bool                           // by process and place
	messages map[way][]int                      // the places of those that are begun and not matched, in order
	receives map[way][]int                      // likewise
	needs    map[int]func(process, at int) bool // by kind: whether a process can go on behind such a deed
}

// start returns the course of a case of which nothing is done.
func start(c [][]lang.Deed, room int) *course {
	n := len(c)
	s := &course{
		deeds: c, room: room,
		behind: make([]int, n), met: make([]int, n), requests: make([][]int, n), matched: make([][]bool, n),
		messages: map[way][]int{}, receives: map[way][]int{},
	}
	s.needs = s.whatDeedsNeed()
	for p, l := range c {
		s.matched[p] = make([]bool, len(l))
		s.begin(p)
	}
	return s
}

// whatDeedsNeed returns, for each kind of deeds, whether a process that has begun such a deed can go on behind it.
func (s *course) whatDeedsNeed() map[int]func(process, at int) bool {
	nothing := func(process, at int) bool { return true }
	matched := func(process, at int) bool { return s.matched[process][at] }
	taken := func(process, at int) bool { return matched(process, at) || s.hasRoom(process, at) }
	return map[int]func(process, at int) bool{
		lang.DSend:  taken,
		lang.DRecv:  matched,
		lang.DIsend: nothing,
		lang.DIrecv: nothing,
		lang.DWait: func(process, at int) bool {
			at = s.requested(process, at)
			if sends(s.deeds[process][at]) {
				return taken(process, at)
			}
			return matched(process, at)
		},
		lang.DMeet: func(process, at int) bool { return s.met[process] == slices.Min(s.met) },
	}
}

// hasRoom reports whether there is room for a message that is not matched.
func (s *course) hasRoom(process, at int) bool {
	d := s.deeds[process][at]
	before := func(i int) bool { return i < at && !s.deeds[process][i].Sync }
	return !d.Sync && count(s.messages[way{process, d.Peer}], before) < s.room
}

// requested returns the place of the deed for whose request a process waits at a place.
func (s *course) requested(process, at int) int {
	return s.requests[process][s.deeds[process][at].Req]
}

// isAtEnd reports whether a process is behind all its deeds.
func (s *course) isAtEnd(process int) bool { return s.behind[process] == len(s.deeds[process]) }

// begin begins the deed that follows for a process, if there is one.
func (s *course) begin(process int) {
	if s.isAtEnd(process) {
		return
	}
	at := s.behind[process]
	d := s.deeds[process][at]
	switch d.Kind {
	case lang.DIsend, lang.DIrecv:
		s.requests[process] = append(s.requests[process], at)
	case lang.DMeet:
		s.met[process]++
	}
	switch d.Kind {
	case lang.DSend, lang.DIsend:
		s.send(way{process, d.Peer}, at)
	case lang.DRecv, lang.DIrecv:
		s.receive(way{d.Peer, process}, at)
	}
}

// send begins a message: it is matched with the first receive that it fits.
func (s *course) send(w way, at int) {
	l := s.receives[w]
	i := slices.IndexFunc(l, func(other int) bool { return fits(s.deeds[w.from][at], s.deeds[w.to][other]) })
	if i < 0 {
		s.messages[w] = append(s.messages[w], at)
		return
	}
	s.matched[w.from][at], s.matched[w.to][l[i]] = true, true
	s.receives[w] = slices.Delete(l, i, i+1)
}

// receive begins a receive: the first message that fits it is matched with it, as that message fits no receive before it.
func (s *course) receive(w way, at int) {
	l := s.messages[w]
	i := slices.IndexFunc(l, func(other int) bool { return fits(s.deeds[w.from][other], s.deeds[w.to][at]) })
	if i < 0 {
		s.receives[w] = append(s.receives[w], at)
		return
	}
	s.matched[w.from][l[i]], s.matched[w.to][at] = true, true
	s.messages[w] = slices.Delete(l, i, i+1)
}

// canGoOn reports whether a process can go on behind the deed that follows.
func (s *course) canGoOn(process int) bool {
	if s.isAtEnd(process) {
		return false
	}
	at := s.behind[process]
	return s.needs[s.deeds[process][at].Kind](process, at)
}

// goOn lets a process go on behind the deed that follows.
func (s *course) goOn(process int) {
	s.behind[process]++
	s.begin(process)
}

// next returns the least process that can go on, or a number below 0 if there is none.
func (s *course) next() int {
	for p := range s.deeds {
		if s.canGoOn(p) {
			return p
		}
	}
	return -1
}

// finish lets processes go on, always the least one that can, until none can, and returns this schedule.
func (s *course) finish() []int {
	var schedule []int
	for p := s.next(); p >= 0; p = s.next() {
		s.goOn(p)
		schedule = append(schedule, p)
	}
	return schedule
}
