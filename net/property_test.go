package net_test

import (
	"slices"
	"testing"

	"armada/api"
	"armada/net"
)

// P4.8: distances are symmetric, 0 for equal switches alone, 1 for linked ones alone, and change by at most 1 over a link.
func TestDistancesFitTogether(t *testing.T) {
	for _, s := range append(smallNetworks(), mediumNetworks()...) {
		number := must[int](t)
		near := must[[]int](t)
		switches, _, _ := net.Size(s)
		for x := range switches {
			neighbors := near(net.Neighbors(s, x))
			for y := range switches {
				n := number(net.Distance(s, x, y))
				if n != number(net.Distance(s, y, x)) || (n == 0) != (x == y) || (n == 1) != slices.Contains(neighbors, y) {
					t.Fatal(s, x, y, n)
				}
				for _, z := range neighbors {
					if m := number(net.Distance(s, z, y)); m < n-1 || m > n+1 {
						t.Fatal(s, x, z, y, n, m)
					}
				}
			}
		}
	}
}

// P4.8: the distance in a torus is the sum of the lesser ways around.
func TestDistancesInTori(t *testing.T) {
	d := dice(5)
	for _, s := range append(append(smallNetworks(), mediumNetworks()...), torus(16, 16), torus(4, 4, 4, 4), torus(3, 5, 16), torus(2, 4, 2, 16)) {
		if s.Kind != net.Torus {
			continue
		}
		switches, _, _ := net.Size(s)
		for range 400 {
			x, y := d.roll(switches), d.roll(switches)
			p, q := digits(x, s.Sides), digits(y, s.Sides)
			want := 0
			for dim, side := range s.Sides {
				way := max(p[dim], q[dim]) - min(p[dim], q[dim])
				want += min(way, side-way)
			}
			n, e := net.Distance(s, x, y)
			isNumber(t, "Distance", n, e, want, api.OK)
		}
	}
}

// isPath fails unless a list is a path from a switch to another one.
func isPath(t *testing.T, s net.Spec, path []int, x, y int) {
	t.Helper()
	if len(path) == 0 || path[0] != x || path[len(path)-1] != y {
		t.Fatal(s, x, y, path)
	}
	for i := range len(path) - 1 {
		if near, e := net.Neighbors(s, path[i]); e != api.OK || !slices.Contains(near, path[i+1]) {
			t.Fatal(s, x, y, path, e)
		}
	}
}

// P4.9: routes are paths, which are as short as the chapter says.
func TestRoutesArePaths(t *testing.T) {
	for _, s := range append(smallNetworks(), mediumNetworks()...) {
		lists, number := must[[]int](t), must[int](t)
		switches, _, _ := net.Size(s)
		for x := range switches {
			for _, goal := range lists(net.Snake(s)) {
				path := lists(net.Route(s, x, goal))
				isPath(t, s, path, x, goal)
				length, distance := len(path)-1, number(net.Distance(s, x, goal))
				if len(lists(net.Classes(s, x, goal))) != length {
					t.Fatal(s, x, goal, path)
				}
				if s.Kind == net.Dragonfly {
					if length > 3 || length > distance+1 {
						t.Fatal(s, x, goal, path, distance)
					}
					continue
				}
				if length != distance {
					t.Fatal(s, x, goal, path, distance)
				}
				for i := range length {
					if !slices.Contains(lists(net.Hops(s, path[i], goal)), path[i+1]) {
						t.Fatal(s, x, goal, path)
					}
				}
			}
		}
	}
}

// channel is a channel with a class.
type channel struct{ from, to, class int }

// channelsOf returns the channels of a path, with their classes.
func channelsOf(path, classes []int) []channel {
	var out []channel
	for i, class := range classes {
		out = append(out, channel{path[i], path[i+1], class})
	}
	return out
}

// waits says for which channels channels wait.
type waits map[channel]map[channel]bool

// add adds what the channels of a route wait for.
func (w waits) add(route []channel) {
	for i := range len(route) - 1 {
		if w[route[i]] == nil {
			w[route[i]] = map[channel]bool{}
		}
		w[route[i]][route[i+1]] = true
	}
}

// haveCycle reports whether a channel waits for itself, directly or over others.
func (w waits) haveCycle() bool {
	const open, closed = 1, 2
	state := map[channel]int{}
	var comesBack func(c channel) bool
	comesBack = func(c channel) bool {
		if state[c] != 0 {
			return state[c] == open
		}
		state[c] = open
		for next := range w[c] {
			if comesBack(next) {
				return true
			}
		}
		state[c] = closed
		return false
	}
	for c := range w {
		if comesBack(c) {
			return true
		}
	}
	return false
}

// P4.10: no channel with a class waits for itself on routes.
func TestRoutesHaveNoCycles(t *testing.T) {
	for _, s := range append(append(smallNetworks(), mediumNetworks()...), torus(8, 4), torus(4, 4, 4), dragonfly(4, 2)) {
		lists := must[[]int](t)
		with, without := waits{}, waits{}
		switches, _, _ := net.Size(s)
		for x := range switches {
			for _, goal := range lists(net.Snake(s)) {
				path, classes := lists(net.Route(s, x, goal)), lists(net.Classes(s, x, goal))
				with.add(channelsOf(path, classes))
				without.add(channelsOf(path, make([]int, len(classes))))
			}
		}
		if with.haveCycle() {
			t.Error(s, "has a cycle")
		}
		if s.Kind == net.Torus && slices.Max(s.Sides) >= 4 && !without.haveCycle() {
			t.Error(s, "has no cycle without classes: the test does not find it")
		}
	}
}

// P4.10, P4.11: detours have no cycles, lead from each switch of a part to each other one, and are not shorter than the distance.
func TestDetoursFitTogether(t *testing.T) {
	d := dice(6)
	for _, s := range append(append(smallNetworks(), mediumNetworks()...), torus(8, 4), dragonfly(4, 2)) {
		for round := range 3 {
			n, m := damaged(t, s), damageOf(s)
			ruin(t, &d, n, m, 2*round, round*len(m.links())/8)
			w := waits{}
			for x := range m.switches {
				if m.down[x] {
					continue
				}
				part := must[[]int](t)(n.Part(x))
				for _, y := range part {
					w.add(checkDetour(t, n, m, x, y))
				}
			}
			if w.haveCycle() {
				t.Fatal(s, m.down, m.cut, "has a cycle")
			}
		}
	}
}

// checkDetour returns the channels of a detour, which is to be a path of links that are alive.
func checkDetour(t *testing.T, n *net.Net, m *damage, x, y int) []channel {
	t.Helper()
	path := must[[]int](t)(n.Detour(x, y))
	isPath(t, m.spec, path, x, y)
	for i := range len(path) - 1 {
		if !m.alive(path[i], path[i+1]) {
			t.Fatal(m.spec, m.down, m.cut, path)
		}
	}
	if distance := must[int](t)(net.Distance(m.spec, x, y)); len(path)-1 < distance {
		t.Fatal(m.spec, m.down, m.cut, path, distance)
	}
	return channelsOf(path, make([]int, len(path)-1))
}

// P4.7, P4.11: parts divide the switches that are up.
func TestParts(t *testing.T) {
	d := dice(7)
	for _, s := range append(smallNetworks(), mediumNetworks()...) {
		for round := range 4 {
			n, m := damaged(t, s), damageOf(s)
			ruin(t, &d, n, m, 3*round, round*len(m.links())/6)
			for x := range m.switches {
				part, e := n.Part(x)
				if m.down[x] {
					isError(t, "Part", part, e, api.ErrState)
					continue
				}
				isList(t, "Part", part, e, m.part(x)...)
				other := d.roll(m.switches)
				_, e = n.Detour(x, other)
				want := api.ErrLost
				switch {
				case m.down[other]:
					want = api.ErrState
				case slices.Contains(part, other):
					want = api.OK
				}
				is(t, "Detour", e, want)
			}
		}
	}
}

// P4.12: as many links are across a side as across its complement.
func TestComplements(t *testing.T) {
	d := dice(8)
	everyNetwork(func(s net.Spec) {
		switches, _, _ := net.Size(s)
		side := d.side(switches)
		other := make([]bool, switches)
		for x := range side {
			other[x] = !side[x]
		}
		number := must[int](t)
		if n, m := number(net.Across(s, side)), number(net.Across(s, other)); n != m {
			t.Fatal(s, n, m)
		}
	})
}

// P4.12: how many links are across the standard sides of each network.
func TestAcrossStandardSides(t *testing.T) {
	everyNetwork(func(s net.Spec) {
		var want []int
		switches, _, _ := net.Size(s)
		switch a, b := s.Sides[0], s.Sides[len(s.Sides)-1]; s.Kind {
		case net.Torus:
			for _, side := range s.Sides {
				across := 2 * switches / side
				if side == 2 {
					across = switches / 2
				}
				want = append(want, across)
			}
		case net.Tree:
			for level := b - 1; level >= 1; level-- {
				want = append(want, slices.Repeat(list(modelPower(a, level)), modelPower(a, b-level))...)
			}
		case net.Dragonfly:
			want = slices.Repeat(list(a*b), a*b+1)
		}
		sides, e := net.Sides(s)
		if e != api.OK || len(sides) != len(want) {
			t.Fatal(s, len(sides), e)
		}
		for i, side := range sides {
			n, e := net.Across(s, side)
			isNumber(t, "Across", n, e, want[i], api.OK)
		}
		if t.Failed() {
			t.Fatal(s)
		}
	})
	for _, x := range []struct {
		s    net.Spec
		want int
	}{{torus(3, 4), 8}, {tree(2, 3), 4}, {dragonfly(2, 1), 2}} { // the chapter's examples
		sides, _ := net.Sides(x.s)
		n, e := net.Across(x.s, sides[0])
		isNumber(t, "Across the first side", n, e, x.want, api.OK)
	}
}

// P4.5, P4.13: a snake has each home once; neighbors in the snake of a torus are linked, and those of others ascend.
func TestSnakesOfAll(t *testing.T) {
	everyNetwork(func(s net.Spec) {
		snake := must[[]int](t)(net.Snake(s))
		_, hosts, _ := net.Size(s)
		if len(snake) != hosts/s.Hosts || snake[0] != 0 {
			t.Fatal(s, snake)
		}
		seen := make([]bool, len(snake))
		for _, x := range snake {
			if seen[x] {
				t.Fatal(s, snake)
			}
			seen[x] = true
		}
		for i := range len(snake) - 1 {
			if s.Kind != net.Torus {
				if snake[i+1] != snake[i]+1 {
					t.Fatal(s, snake)
				}
				continue
			}
			if near := must[[]int](t)(net.Neighbors(s, snake[i])); !slices.Contains(near, snake[i+1]) {
				t.Fatal(s, snake)
			}
		}
	})
}

// P4.5: the next switch of the snake of a torus is found as the chapter says it.
func TestSnakesStepByStep(t *testing.T) {
	for _, s := range append(append(smallNetworks(), mediumNetworks()...), torus(2, 4, 2, 16), torus(16, 16), torus(4, 4, 4, 4)) {
		if s.Kind != net.Torus {
			continue
		}
		at, ups := make([]int, len(s.Sides)), slices.Repeat([]bool{true}, len(s.Sides))
		want := list(0)
		for {
			last := -1
			for dim, side := range s.Sides {
				if ups[dim] && at[dim]+1 <= side-1 || !ups[dim] && at[dim]-1 >= 0 {
					last = dim
				}
			}
			if last < 0 {
				break
			}
			if ups[last] {
				at[last]++
			} else {
				at[last]--
			}
			for dim := last + 1; dim < len(ups); dim++ {
				ups[dim] = !ups[dim]
			}
			want = append(want, number(at, s.Sides))
		}
		l, e := net.Snake(s)
		isList(t, "Snake", l, e, want...)
	}
}
