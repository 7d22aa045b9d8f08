package window

import (
	"iter"

	"armada/api"
)

// counters say of each process how many of its actions, from the first one on, come before something.
type counters [api.MaxRanks]uint8

func (c *counters) join(d counters) {
	for rank, n := range d {
		c[rank] = max(c[rank], n)
	}
}

// order says what comes before each place of a program.
type order struct {
	program *program
	before  [][]counters
	seen    [][]bool
	list    []Place // the places, each of them behind those before it, as far as that is possible
}

// order finds out what comes before each place. In a program in which no process waits in vain once through the list is enough; where processes wait for each other the counters grow until nothing changes.
func (x *program) order() *order {
	o := &order{program: x}
	for _, acts := range x.Acts {
		o.before = append(o.before, make([]counters, len(acts)))
		o.seen = append(o.seen, make([]bool, len(acts)))
	}
	for rank, acts := range x.Acts {
		for index := range acts {
			o.enlist(Place{rank, index})
		}
	}
	for o.grow() {
	}
	return o
}

// causes yields the places from which, and from what comes before them, all follows that comes before a place.
func (o *order) causes(at Place) iter.Seq[Place] {
	return func(yield func(Place) bool) {
		last := Place{at.Rank, at.Index - 1}
		if last.Index < 0 || !yield(last) {
			return
		}
		for _, x := range o.program.needs[last.Rank][last.Index].places {
			if !yield(x) {
				return
			}
		}
	}
}

// enlist puts a place on the list, behind its causes.
func (o *order) enlist(at Place) {
	if o.seen[at.Rank][at.Index] {
		return
	}
	o.seen[at.Rank][at.Index] = true
	for x := range o.causes(at) {
		o.enlist(x)
	}
	o.list = append(o.list, at)
}

// grow brings the counters of all places up to date once, and reports whether that changed them.
func (o *order) grow() bool {
	changed := false
	for _, at := range o.list {
		old := o.before[at.Rank][at.Index]
		now := old
		for x := range o.causes(at) {
			now.join(o.upTo(x))
		}
		o.before[at.Rank][at.Index] = now
		changed = changed || now != old
	}
	return changed
}

// upTo returns the counters of what comes before a place, or is this place.
func (o *order) upTo(at Place) counters {
	c := o.before[at.Rank][at.Index]
	c[at.Rank] = max(c[at.Rank], uint8(at.Index+1))
	return c
}

// has reports whether a place comes before another one.
func (o *order) has(x, y Place) bool {
	return int(o.before[y.Rank][y.Index][x.Rank]) > x.Index
}

// Before reports whether a place comes before another one; where processes wait for each other in vain, a place can come before itself.
func Before(p Program, x, y Place) (bool, api.Errno) {
	all, e := link(p)
	if e != api.OK {
		return false, e
	}
	if !all.exists(x) || !all.exists(y) {
		return false, api.ErrRange
	}
	return all.order().has(x, y), api.OK
}
