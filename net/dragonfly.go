package net

import (
	"iter"
	"slices"
)

// dragonfly has groups of switches that are all linked with each other; ports join each group with each other one.
type dragonfly struct {
	a      int // switches of a group
	h      int // ports of a switch
	groups int
}

func dragonflyOf(s Spec) (dragonfly, bool) {
	if len(s.Sides) != 2 || !within(s.Hosts, 1, maxHosts) {
		return dragonfly{}, false
	}
	a, h := s.Sides[0], s.Sides[1]
	if !within(a, 1, 16) || !within(h, 1, 4) || a*(a*h+1) > maxSize {
		return dragonfly{}, false
	}
	return dragonfly{a, h, a*h + 1}, true
}

func (d dragonfly) size() (switches, homes int) { return d.a * d.groups, d.a * d.groups }

// place returns the group of a switch, and its place there.
func (d dragonfly) place(x int) []int { return []int{x / d.a, x % d.a} }

// port returns the port of a group that joins it with another one.
func (d dragonfly) port(group, other int) int { return modulo(other-group-1, d.groups) }

// owner returns the switch of a group to which a port belongs.
func (d dragonfly) owner(group, port int) int { return group*d.a + port/d.h }

// behind returns the switch of another group to which the link of a port leads.
func (d dragonfly) behind(group, port int) int {
	return d.owner((group+port+1)%d.groups, d.groups-2-port)
}

func (d dragonfly) neighbors(x int) iter.Seq[int] {
	group, place := x/d.a, x%d.a
	near := make([]int, 0, d.a+d.h)
	for p := range d.a {
		if p != place {
			near = append(near, group*d.a+p)
		}
	}
	for p := range d.h {
		near = append(near, d.behind(group, place*d.h+p))
	}
	slices.Sort(near)
	return slices.Values(near)
}

func (d dragonfly) route(x, goal int) iter.Seq2[int, int] {
	return func(yield func(to, class int) bool) {
		at, class := x, 0
		if group, other := x/d.a, goal/d.a; group != other {
			port := d.port(group, other)
			if exit := d.owner(group, port); exit != at && !yield(exit, 0) {
				return
			}
			at = d.behind(group, port)
			if !yield(at, 0) {
				return
			}
			class = 1
		}
		if at != goal {
			yield(goal, class)
		}
	}
}

func (d dragonfly) snake() []int { return ascending(d.a * d.groups) }

func (d dragonfly) sides() iter.Seq[func(x int) bool] {
	return func(yield func(func(x int) bool) bool) {
		for group := range d.groups {
			if !yield(func(x int) bool { return x/d.a == group }) {
				return
			}
		}
	}
}
