package dead_test

import (
	"slices"

	"armada/api"
	"armada/dead"
	"armada/lang"
)

// The model follows the chapter's definitions word by word. It knows only behind how many deeds each process is, and finds all else anew each time.

// place is a deed of a process.
type place struct{ process, at int }

type model struct {
	c      [][]lang.Deed
	room   int
	behind []int
}

func modelOf(c [][]lang.Deed, room int) model { return model{c, room, make([]int, len(c))} }

// begun returns how many deeds of a process are begun.
func (m model) begun(p int) int { return min(m.behind[p]+1, len(m.c[p])) }

// between returns the places of the begun deeds of a process, of two kinds, whose Peer is another one.
func (m model) between(p, peer, kind, other int) []place {
	var l []place
	for i := range m.begun(p) {
		if d := m.c[p][i]; (d.Kind == kind || d.Kind == other) && d.Peer == peer {
			l = append(l, place{p, i})
		}
	}
	return l
}

func (m model) deed(x place) lang.Deed { return m.c[x.process][x.at] }

// matched returns the messages and receives of two processes that are matched.
func (m model) matched(from, to int) map[place]bool {
	out := map[place]bool{}
	receives := m.between(to, from, lang.DRecv, lang.DIrecv)
	for _, x := range m.messages(from, to) {
		for _, y := range receives {
			tag := m.deed(y).Tag
			if !out[y] && (tag == m.deed(x).Tag || tag == api.AnyTag) {
				out[x], out[y] = true, true
				break
			}
		}
	}
	return out
}

func (m model) messages(from, to int) []place {
	return m.between(from, to, lang.DSend, lang.DIsend)
}

// takenOver reports whether a message is taken over.
func (m model) takenOver(x place) bool {
	d := m.deed(x)
	matched := m.matched(x.process, d.Peer)
	if matched[x] {
		return true
	}
	before := 0
	for _, y := range m.messages(x.process, d.Peer) {
		if y.at < x.at && !m.deed(y).Sync && !matched[y] {
			before++
		}
	}
	return !d.Sync && before < m.room
}

// received reports whether a receive is matched.
func (m model) received(x place) bool {
	return m.matched(m.deed(x).Peer, x.process)[x]
}

// request returns the deed for which a process waits.
func (m model) request(x place) place {
	for i, d := range m.c[x.process] {
		if (d.Kind == lang.DIsend || d.Kind == lang.DIrecv) && d.Req == m.deed(x).Req {
			return place{x.process, i}
		}
	}
	return place{-1, -1}
}

// meetings returns how many meetings a process has begun.
func (m model) meetings(p int) int {
	n := 0
	for i := range m.begun(p) {
		if m.c[p][i].Kind == lang.DMeet {
			n++
		}
	}
	return n
}

func (m model) canGoOn(p int) bool {
	if m.behind[p] == len(m.c[p]) {
		return false
	}
	x := place{p, m.behind[p]}
	kind := m.deed(x).Kind
	if kind == lang.DWait {
		x = m.request(x)
		kind = map[int]int{lang.DIsend: lang.DSend, lang.DIrecv: lang.DRecv}[m.deed(x).Kind]
	}
	switch kind {
	case lang.DSend:
		return m.takenOver(x)
	case lang.DRecv:
		return m.received(x)
	case lang.DMeet:
		for q := range m.c {
			if m.meetings(q) < m.meetings(p) {
				return false
			}
		}
	}
	return true
}

// able returns the processes that can go on.
func (m model) able() []int {
	var l []int
	for p := range m.c {
		if m.canGoOn(p) {
			l = append(l, p)
		}
	}
	return l
}

// wander follows a schedule of the dice to the end, and returns it.
func (m model) wander(d *dice) []int {
	var schedule []int
	for l := m.able(); len(l) > 0; l = m.able() {
		p := pick(d, l...)
		m.behind[p]++
		schedule = append(schedule, p)
	}
	return schedule
}

// show follows the schedule in which it is always the least process that goes on.
func (m model) show() []int {
	var schedule []int
	for l := m.able(); len(l) > 0; l = m.able() {
		m.behind[l[0]]++
		schedule = append(schedule, l[0])
	}
	return schedule
}

func (m model) isOver() bool {
	for p, l := range m.c {
		if m.behind[p] < len(l) {
			return false
		}
	}
	return true
}

// blocks returns the processes that are blocked at the end.
func (m model) blocks() []dead.Block {
	var out []dead.Block
	for p, l := range m.c {
		if m.behind[p] == len(l) {
			continue
		}
		b := dead.Block{Process: p, At: m.behind[p]}
		x := place{p, m.behind[p]}
		switch m.deed(x).Kind {
		case lang.DMeet:
			for q := range m.c {
				if m.meetings(q) < m.meetings(p) {
					b.For = append(b.For, q)
				}
			}
		case lang.DWait:
			b.For = []int{m.deed(m.request(x)).Peer}
		default:
			b.For = []int{m.deed(x).Peer}
		}
		out = append(out, b)
	}
	return out
}

// cycle returns the cycle of blocked processes.
func cycleOf(blocks []dead.Block) []int {
	for _, b := range blocks {
		path := []int{b.Process}
		for {
			next := nextOn(blocks, path[len(path)-1])
			if next < 0 {
				break
			}
			if i := slices.Index(path, next); i >= 0 {
				l := path[i:]
				for l[0] != slices.Min(l) {
					l = append(l[1:], l[0])
				}
				return l
			}
			path = append(path, next)
		}
	}
	return nil
}

// nextOn returns the least blocked process for which a process waits, or -1.
func nextOn(blocks []dead.Block, p int) int {
	for _, b := range blocks {
		if b.Process != p {
			continue
		}
		for _, q := range b.For {
			for _, other := range blocks {
				if other.Process == q {
					return q
				}
			}
		}
	}
	return -1
}

// verdictOf tries one room after the other.
func verdictOf(c [][]lang.Deed) dead.Verdict {
	comes := func(room int) bool {
		m := modelOf(c, room)
		m.show()
		return m.isOver()
	}
	if !comes(highest) {
		return dead.Verdict{Kind: dead.Stuck}
	}
	for room := 0; ; room++ {
		if comes(room) {
			return dead.Verdict{Kind: map[bool]int{true: dead.Free, false: dead.Bound}[room == 0], Room: room}
		}
	}
}

// narrowed narrows a case, if it can be narrowed.
func narrowed(c [][]lang.Deed) ([][]lang.Deed, bool) {
	out := copied(c)
	for p, l := range c {
		for i, d := range l {
			if d.Kind != lang.DRecv && d.Kind != lang.DIrecv || d.Peer != api.AnySource {
				continue
			}
			sources := map[int]bool{}
			for q, messages := range c {
				for _, x := range messages {
					if (x.Kind == lang.DSend || x.Kind == lang.DIsend) && x.Peer == p && (d.Tag == x.Tag || d.Tag == api.AnyTag) {
						sources[q] = true
					}
				}
			}
			if len(sources) > 1 {
				return nil, false
			}
			out[p][i].Peer = 0
			for q := range sources {
				out[p][i].Peer = q
			}
		}
	}
	return out, true
}

// wellFormed reports whether a deed of a process, behind others, is as the chapter wants it.
func wellFormed(n int, before []lang.Deed, d lang.Deed) bool {
	process := d.Peer >= 0 && d.Peer < n
	tag := d.Tag >= 0 && d.Tag <= api.MaxTag
	requests := slices.DeleteFunc(slices.Clone(before), func(x lang.Deed) bool { return x.Kind != lang.DIsend && x.Kind != lang.DIrecv })
	switch d.Kind {
	case lang.DSend:
		return process && tag && d.Req == 0
	case lang.DIsend:
		return process && tag && !d.Sync && d.Req == len(requests)
	case lang.DRecv:
		return (process || d.Peer == api.AnySource) && (tag || d.Tag == api.AnyTag) && !d.Sync && d.Req == 0
	case lang.DIrecv:
		return (process || d.Peer == api.AnySource) && (tag || d.Tag == api.AnyTag) && !d.Sync && d.Req == len(requests)
	case lang.DWait:
		isIt := func(x lang.Deed) bool { return x.Req == d.Req }
		waits := slices.ContainsFunc(before, func(x lang.Deed) bool { return x.Kind == lang.DWait && isIt(x) })
		return slices.ContainsFunc(requests, isIt) && !waits && d.Peer == 0 && d.Tag == 0 && !d.Sync
	case lang.DMeet:
		return d.Peer == 0 && d.Tag == 0 && d.Req == 0 && !d.Sync
	}
	return false
}

// errorOf returns the error of Check.
func errorOf(c [][]lang.Deed) api.Errno {
	if len(c) == 0 || len(c) > api.MaxRanks {
		return api.ErrRange
	}
	for _, l := range c {
		if len(l) > dead.MaxDeeds {
			return api.ErrMany
		}
	}
	for _, l := range c {
		for i, d := range l {
			if !wellFormed(len(c), l[:i], d) {
				return api.ErrArg
			}
		}
	}
	return api.OK
}
