package net

import (
	"iter"
	"maps"
	"slices"

	"armada/api"
)

// Net is a network some of whose switches are down, and some of whose links are cut.
type Net struct {
	spec Spec
	all  network // without the damage; nil in a damaged network that is not valid
	down []bool
	cut  map[Link]bool
}

// New returns a damaged network without any damage.
func New(s Spec) (*Net, api.Errno) {
	s.Sides = slices.Clone(s.Sides)
	all, e := networkOf(s)
	if e != api.OK {
		return nil, e
	}
	switches, _ := all.size()
	return &Net{s, all, make([]bool, switches), map[Link]bool{}}, api.OK
}

func (n *Net) valid() bool { return n != nil && n.all != nil }

// check checks a damaged network, and that it has some switches.
func (n *Net) check(switches ...int) api.Errno {
	switch {
	case !n.valid():
		return api.ErrNil
	case !allBelow(len(n.down), switches):
		return api.ErrRange
	}
	return api.OK
}

// linkOf returns the link of two switches.
func linkOf(x, y int) Link { return Link{min(x, y), max(x, y)} }

// checkLink checks a damaged network, and that it has a link.
func (n *Net) checkLink(x, y int) api.Errno {
	if e := n.check(x, y); e != api.OK {
		return e
	}
	for z := range n.all.neighbors(x) {
		if z == y {
			return api.OK
		}
	}
	return api.ErrNone
}

// Spec returns the network that is damaged.
func (n *Net) Spec() Spec {
	if !n.valid() {
		return Spec{}
	}
	s := n.spec
	s.Sides = slices.Clone(s.Sides)
	return s
}

// Down takes a switch down.
func (n *Net) Down(x int) api.Errno { return n.turn(x, true) }

// Up brings a switch up again.
func (n *Net) Up(x int) api.Errno { return n.turn(x, false) }

// turn takes a switch down, or brings it up.
func (n *Net) turn(x int, down bool) api.Errno {
	if e := n.check(x); e != api.OK {
		return e
	}
	if n.down[x] == down {
		return api.ErrState
	}
	n.down[x] = down
	return api.OK
}

// Cut cuts a link.
func (n *Net) Cut(x, y int) api.Errno {
	if e := n.checkLink(x, y); e != api.OK {
		return e
	}
	if n.cut[linkOf(x, y)] {
		return api.ErrState
	}
	n.cut[linkOf(x, y)] = true
	return api.OK
}

// Mend mends a link.
func (n *Net) Mend(x, y int) api.Errno {
	if e := n.checkLink(x, y); e != api.OK {
		return e
	}
	if !n.cut[linkOf(x, y)] {
		return api.ErrState
	}
	delete(n.cut, linkOf(x, y))
	return api.OK
}

// alive reports whether a link is alive.
func (n *Net) alive(x, y int) bool { return !n.down[x] && !n.down[y] && !n.cut[linkOf(x, y)] }

// Alive reports whether a link is alive.
func (n *Net) Alive(x, y int) (bool, api.Errno) {
	if e := n.checkLink(x, y); e != api.OK {
		return false, e
	}
	return n.alive(x, y), api.OK
}

// part returns the switches of the part of a switch that is up, ascending.
func (n *Net) part(x int) []int {
	var out []int
	for y, steps := range distances(n.all, x, n.alive) {
		if steps != unreached {
			out = append(out, y)
		}
	}
	return out
}

// Part returns the switches that can be reached from a switch.
func (n *Net) Part(x int) ([]int, api.Errno) {
	if e := n.check(x); e != api.OK {
		return nil, e
	}
	if n.down[x] {
		return nil, api.ErrState
	}
	return n.part(x), api.OK
}

// Detour returns a lawful path from a switch to another one.
func (n *Net) Detour(x, y int) ([]int, api.Errno) {
	if e := n.check(x, y); e != api.OK {
		return nil, e
	}
	if n.down[x] || n.down[y] {
		return nil, api.ErrState
	}
	part := n.part(x)
	if !slices.Contains(part, y) {
		return nil, api.ErrLost
	}
	return n.detour(part[0], x, y), api.OK
}

// detour returns the detour between two switches of the part with a root. It searches among twice as many places as there are switches: x is a switch that was reached by going up alone, and x + switches is the same one reached by going down.
func (n *Net) detour(root, x, y int) []int {
	switches := len(n.down)
	ranks := distances(n.all, root, n.alive)
	goesUp := func(x, y int) bool { return ranks[y] < ranks[x] || ranks[y] == ranks[x] && y < x }
	next := func(place int) iter.Seq[int] {
		return func(yield func(int) bool) {
			from := place % switches
			for to := range n.all.neighbors(from) {
				if !goesUp(from, to) {
					to += switches
				}
				if !yield(to) {
					return
				}
			}
		}
	}
	lawful := func(from, to int) bool {
		return n.alive(from%switches, to%switches) && (from < switches || to >= switches)
	}
	for t := range search(2*switches, x, next, lawful) {
		if t.at%switches == y {
			path := t.places()
			for i := range path {
				path[i] %= switches
			}
			return path
		}
	}
	return nil
}

// Copy returns an independent damaged network.
func (n *Net) Copy() *Net {
	if !n.valid() {
		return nil
	}
	same, _ := New(n.spec)
	copy(same.down, n.down)
	maps.Copy(same.cut, n.cut)
	return same
}
