package net_test

import (
	"slices"
	"testing"

	"armada/api"
	"armada/net"
)

// P4.2: the links of networks, as in the chapter's examples, and by hand.
func TestLinks(t *testing.T) {
	for _, x := range []struct {
		s    net.Spec
		want []net.Link
	}{
		{dragonfly(2, 1), []net.Link{{0, 1}, {0, 3}, {1, 4}, {2, 3}, {2, 5}, {4, 5}}}, // the chapter's example
		{dragonfly(1, 1), []net.Link{{0, 1}}},
		{dragonfly(1, 2), []net.Link{{0, 1}, {0, 2}, {1, 2}}},
		{torus(2), []net.Link{{0, 1}}},
		{torus(3), []net.Link{{0, 1}, {0, 2}, {1, 2}}},
		{torus(4), []net.Link{{0, 1}, {0, 3}, {1, 2}, {2, 3}}},
		{torus(2, 2), []net.Link{{0, 1}, {0, 2}, {1, 3}, {2, 3}}},
		{torus(2, 3), []net.Link{{0, 1}, {0, 2}, {0, 3}, {1, 2}, {1, 4}, {2, 5}, {3, 4}, {3, 5}, {4, 5}}},
		{tree(2, 1), nil},
		{tree(2, 2), []net.Link{{0, 2}, {0, 3}, {1, 2}, {1, 3}}},
		{tree(2, 3), []net.Link{{0, 4}, {0, 5}, {1, 4}, {1, 5}, {2, 6}, {2, 7}, {3, 6}, {3, 7}, {4, 8}, {4, 10}, {5, 9}, {5, 11}, {6, 8}, {6, 10}, {7, 9}, {7, 11}}},
	} {
		if l, e := net.Links(x.s); e != api.OK || !slices.Equal(l, x.want) {
			t.Error(x.s, l, e)
		}
	}
}

// P4.2, P4.3, P4.4, P4.5: all networks that are not large are as the model says.
func TestModel(t *testing.T) {
	for _, s := range append(smallNetworks(), mediumNetworks()...) {
		m := modelOf(s)
		if l, e := net.Links(s); e != api.OK || !slices.Equal(l, m.links()) {
			t.Fatal("Links:", s, l, e)
		}
		distances := m.distances()
		for x := range m.switches {
			l, e := net.Neighbors(s, x)
			isList(t, "Neighbors", l, e, m.neighbors(x)...)
			for y := range m.switches {
				n, e := net.Distance(s, x, y)
				isNumber(t, "Distance", n, e, distances[x][y], api.OK)
				var hops []int
				for _, z := range m.neighbors(x) {
					if distances[z][y] == distances[x][y]-1 {
						hops = append(hops, z)
					}
				}
				l, e = net.Hops(s, x, y)
				isList(t, "Hops", l, e, hops...)
				if y >= m.homes {
					continue
				}
				path, classes := m.route(x, y)
				l, e = net.Route(s, x, y)
				isList(t, "Route", l, e, path...)
				l, e = net.Classes(s, x, y)
				isList(t, "Classes", l, e, classes...)
			}
		}
		if t.Failed() {
			t.Fatal(s)
		}
	}
}

// P4.2, P4.3, P4.4: the largest networks, at some switches.
func TestLargestNetworks(t *testing.T) {
	d := dice(1)
	for _, s := range []net.Spec{torus(4, 4, 4, 4), torus(16, 16), torus(2, 8, 16), tree(4, 4), tree(6, 3), dragonfly(15, 1), dragonfly(7, 4), dragonfly(9, 3), dragonfly(11, 2)} {
		m := modelOf(s)
		if l, e := net.Links(s); e != api.OK || !slices.Equal(l, m.links()) {
			t.Fatal("Links:", s, e)
		}
		for range 300 {
			x, goal := d.roll(m.switches), d.roll(m.homes)
			l, e := net.Neighbors(s, x)
			isList(t, "Neighbors", l, e, m.neighbors(x)...)
			path, classes := m.route(x, goal)
			l, e = net.Route(s, x, goal)
			isList(t, "Route", l, e, path...)
			l, e = net.Classes(s, x, goal)
			isList(t, "Classes", l, e, classes...)
		}
	}
}

// P4.3: distances and hops.
func TestDistances(t *testing.T) {
	for _, x := range []struct {
		s              net.Spec
		x, y, distance int
		hops           []int
	}{
		{torus(3, 4), 0, 7, 2, list(3, 4)}, // the chapter's example
		{torus(3, 4), 7, 0, 2, list(3, 4)},
		{torus(3, 4), 5, 5, 0, nil},
		{torus(3, 4), 0, 6, 3, list(1, 3, 4)},
		{torus(2), 0, 1, 1, list(1)},
		{torus(2), 1, 0, 1, list(0)},
		{torus(16), 0, 8, 8, list(1, 15)},
		{torus(5), 0, 3, 2, list(4)},
		{torus(2, 2, 2, 2), 0, 15, 4, list(1, 2, 4, 8)},
		{tree(2, 1), 0, 0, 0, nil},
		{tree(2, 3), 0, 3, 4, list(4, 5)},
		{tree(2, 3), 0, 1, 2, list(4, 5)},
		{tree(2, 3), 8, 9, 4, list(4, 6)},
		{tree(2, 3), 8, 11, 4, list(4, 6)},
		{tree(2, 3), 8, 10, 2, list(4, 6)},
		{tree(2, 3), 0, 8, 2, list(4)},
		{tree(2, 3), 4, 7, 4, list(0, 1, 8, 10)},
		{dragonfly(2, 1), 1, 2, 3, list(0, 4)},
		{dragonfly(2, 1), 0, 4, 2, list(1)},
		{dragonfly(2, 1), 0, 2, 2, list(3)},
		{dragonfly(1, 4), 0, 4, 1, list(4)},
		{dragonfly(2, 2), 0, 9, 3, list(1, 3, 5)},
		{dragonfly(2, 2), 0, 8, 2, list(1, 3)},
	} {
		n, e := net.Distance(x.s, x.x, x.y)
		isNumber(t, "Distance", n, e, x.distance, api.OK)
		l, e := net.Hops(x.s, x.x, x.y)
		isList(t, "Hops", l, e, x.hops...)
	}
}

// P4.4: routes and their classes.
func TestRoutes(t *testing.T) {
	for _, x := range []struct {
		s             net.Spec
		x, goal       int
		path, classes []int
	}{
		{torus(3, 4), 0, 7, list(0, 4, 7), list(0, 1)}, // the chapter's examples
		{torus(4), 0, 2, list(0, 1, 2), list(0, 0)},
		{torus(4), 3, 1, list(3, 0, 1), list(1, 1)},
		{tree(2, 3), 0, 3, list(0, 5, 11, 7, 3), list(0, 0, 0, 0)},
		{tree(2, 3), 0, 1, list(0, 5, 1), list(0, 0)},
		{dragonfly(2, 1), 1, 2, list(1, 0, 3, 2), list(0, 0, 1)},

		{torus(4), 2, 0, list(2, 3, 0), list(0, 1)},
		{torus(4), 2, 1, list(2, 1), list(0)},
		{torus(4), 0, 3, list(0, 3), list(1)},
		{torus(4), 1, 1, list(1), nil},
		{torus(5), 1, 4, list(1, 0, 4), list(0, 1)},
		{torus(5), 4, 1, list(4, 0, 1), list(1, 1)},
		{torus(5), 0, 3, list(0, 4, 3), list(1, 1)},
		{torus(2), 0, 1, list(0, 1), list(0)},
		{torus(2), 1, 0, list(1, 0), list(1)},
		{torus(3), 0, 2, list(0, 2), list(1)},
		{torus(3), 2, 0, list(2, 0), list(1)},
		{torus(3), 2, 1, list(2, 1), list(0)},
		{torus(6), 5, 2, list(5, 0, 1, 2), list(1, 1, 1)},
		{torus(3, 4), 8, 1, list(8, 0, 1), list(1, 0)}, // the class begins with 0 again
		{torus(2, 2), 3, 0, list(3, 1, 0), list(1, 1)},
		{torus(4, 4), 0, 10, list(0, 4, 8, 9, 10), list(0, 0, 0, 0)},
		{torus(4, 4), 15, 5, list(15, 3, 7, 4, 5), list(1, 1, 1, 1)},

		{tree(2, 1), 0, 0, list(0), nil},
		{tree(2, 3), 0, 0, list(0), nil},
		{tree(2, 3), 3, 0, list(3, 6, 8, 4, 0), list(0, 0, 0, 0)},
		{tree(2, 3), 0, 2, list(0, 4, 10, 6, 2), list(0, 0, 0, 0)},
		{tree(2, 3), 8, 0, list(8, 4, 0), list(0, 0)}, // from the highest level down
		{tree(2, 3), 8, 3, list(8, 6, 3), list(0, 0)},
		{tree(2, 3), 11, 0, list(11, 5, 0), list(0, 0)},
		{tree(2, 3), 5, 0, list(5, 0), list(0)}, // a digit below the level does not matter
		{tree(2, 3), 5, 1, list(5, 1), list(0)},
		{tree(2, 3), 5, 2, list(5, 11, 7, 2), list(0, 0, 0)},
		{tree(3, 2), 0, 2, list(0, 5, 2), list(0, 0)},

		{dragonfly(2, 1), 0, 3, list(0, 3), list(0)},
		{dragonfly(2, 1), 0, 2, list(0, 3, 2), list(0, 1)},
		{dragonfly(2, 1), 1, 3, list(1, 0, 3), list(0, 0)},
		{dragonfly(2, 1), 0, 1, list(0, 1), list(0)},
		{dragonfly(2, 1), 4, 4, list(4), nil},
		{dragonfly(1, 1), 0, 1, list(0, 1), list(0)},
		{dragonfly(2, 2), 0, 9, list(0, 1, 8, 9), list(0, 0, 1)},
		{dragonfly(2, 2), 0, 8, list(0, 1, 8), list(0, 0)},
		{dragonfly(2, 2), 0, 3, list(0, 3), list(0)},
		{dragonfly(2, 2), 0, 2, list(0, 3, 2), list(0, 1)},
		{dragonfly(2, 1), 5, 0, list(5, 4, 1, 0), list(0, 0, 1)},
	} {
		l, e := net.Route(x.s, x.x, x.goal)
		isList(t, "Route", l, e, x.path...)
		l, e = net.Classes(x.s, x.x, x.goal)
		isList(t, "Classes", l, e, x.classes...)
	}
}

// P4.4: only in a tree there are switches that are not homes.
func TestGoalsThatAreNotHomes(t *testing.T) {
	for _, s := range append(smallNetworks(), mediumNetworks()...) {
		m := modelOf(s)
		for goal := range m.switches {
			want := api.OK
			if goal >= m.homes {
				want = api.ErrArg
			}
			for _, x := range list(0, m.switches-1, goal) {
				l, e := net.Route(s, x, goal)
				if e != want || (len(l) > 0) != (want == api.OK) {
					t.Error("Route:", s, x, goal, l, e)
				}
				l, e = net.Classes(s, x, goal)
				if e != want || len(l) > 0 && want != api.OK {
					t.Error("Classes:", s, x, goal, l, e)
				}
			}
		}
	}
	l, e := net.Route(tree(2, 3), 0, 4)
	isError(t, "the chapter's example", l, e, api.ErrArg)
	l, e = net.Classes(tree(2, 3), 0, 4)
	isError(t, "the classes of the chapter's example", l, e, api.ErrArg)
	l, e = net.Route(tree(2, 3), 12, 4)
	isError(t, "what is out of range comes first", l, e, api.ErrRange)
}

// P4.5: the snake.
func TestSnake(t *testing.T) {
	for _, x := range []struct {
		s    net.Spec
		want []int
	}{
		{torus(3, 4), list(0, 1, 2, 3, 7, 6, 5, 4, 8, 9, 10, 11)}, // the chapter's example
		{torus(4), list(0, 1, 2, 3)},
		{torus(2), list(0, 1)},
		{torus(2, 2), list(0, 1, 3, 2)},
		{torus(2, 2, 2), list(0, 1, 3, 2, 6, 7, 5, 4)},
		{torus(2, 3, 2), list(0, 1, 3, 2, 4, 5, 11, 10, 8, 9, 7, 6)},
		{tree(2, 1), list(0)},
		{tree(2, 3), list(0, 1, 2, 3)},
		{tree(3, 2), list(0, 1, 2)},
		{dragonfly(2, 1), list(0, 1, 2, 3, 4, 5)},
		{net.Spec{Kind: net.Dragonfly, Sides: list(1, 2), Hosts: 4}, list(0, 1, 2)},
	} {
		l, e := net.Snake(x.s)
		isList(t, "Snake", l, e, x.want...)
	}
}

// P4.5: links across sides.
func TestAcross(t *testing.T) {
	d := dice(2)
	for _, s := range append(smallNetworks(), mediumNetworks()...) {
		m := modelOf(s)
		for range 20 {
			side := d.side(m.switches)
			n, e := net.Across(s, side)
			isNumber(t, "Across", n, e, m.across(side), api.OK)
		}
		for _, side := range [][]bool{make([]bool, m.switches), slices.Repeat([]bool{true}, m.switches)} {
			n, e := net.Across(s, side)
			isNumber(t, "Across nothing", n, e, 0, api.OK)
		}
		for x := range m.switches {
			side := make([]bool, m.switches)
			side[x] = true
			n, e := net.Across(s, side)
			isNumber(t, "Across one switch", n, e, len(m.neighbors(x)), api.OK)
		}
		for _, count := range list(0, m.switches-1, m.switches+1, 1000) {
			if count != m.switches {
				n, e := net.Across(s, make([]bool, count))
				isNumber(t, "Across too few or too many", n, e, 0, api.ErrArg)
			}
		}
		n, e := net.Across(s, nil)
		isNumber(t, "Across nil", n, e, 0, api.ErrArg)
	}
}

// members returns the switches of a side.
func members(side []bool) []int {
	var out []int
	for x, in := range side {
		if in {
			out = append(out, x)
		}
	}
	return out
}

// P4.5: the standard sides, by hand.
func TestSides(t *testing.T) {
	for _, x := range []struct {
		s    net.Spec
		want [][]int
	}{
		{torus(3, 4), [][]int{{0, 1, 2, 3}, {0, 1, 4, 5, 8, 9}}},
		{torus(2), [][]int{{0}}},
		{torus(5), [][]int{{0, 1}}},
		{torus(2, 3, 2), [][]int{{0, 1, 2, 3, 4, 5}, {0, 1, 6, 7}, {0, 2, 4, 6, 8, 10}}},
		{tree(2, 1), nil},
		{tree(8, 1), nil},
		{tree(2, 2), [][]int{{0}, {1}}},
		{tree(2, 3), [][]int{{0, 1, 4, 5}, {2, 3, 6, 7}, {0}, {1}, {2}, {3}}},
		{tree(3, 2), [][]int{{0}, {1}, {2}}},
		{dragonfly(2, 1), [][]int{{0, 1}, {2, 3}, {4, 5}}},
		{dragonfly(1, 1), [][]int{{0}, {1}}},
		{dragonfly(1, 2), [][]int{{0}, {1}, {2}}},
	} {
		sides, e := net.Sides(x.s)
		var got [][]int
		switches, _, _ := net.Size(x.s)
		for _, side := range sides {
			got = append(got, members(side))
			if len(side) != switches {
				t.Error(x.s, side)
			}
		}
		if e != api.OK || !slices.EqualFunc(got, x.want, slices.Equal) {
			t.Error(x.s, got, e)
		}
	}
}

// P4.5: the standard sides of all networks have the switches of which the chapter says so.
func TestAllSides(t *testing.T) {
	everyNetwork(func(s net.Spec) {
		sides, e := net.Sides(s)
		if e != api.OK {
			t.Fatal(s, e)
		}
		switches, _, _ := net.Size(s)
		next := 0
		has := func(in func(x int) bool) {
			if next == len(sides) {
				t.Fatal(s, "has too few sides:", len(sides))
			}
			for x := range switches {
				if sides[next][x] != in(x) {
					t.Fatal(s, "side", next, "switch", x)
				}
			}
			next++
		}
		switch a, b := s.Sides[0], s.Sides[len(s.Sides)-1]; s.Kind {
		case net.Torus:
			for dim, side := range s.Sides {
				has(func(x int) bool { return digits(x, s.Sides)[dim] < side/2 })
			}
		case net.Tree:
			words := modelPower(a, b-1)
			for level := b - 1; level >= 1; level-- {
				for v := range modelPower(a, b-level) {
					has(func(x int) bool { return x/words < level && x%words/modelPower(a, level-1) == v })
				}
			}
		case net.Dragonfly:
			for group := range a*b + 1 {
				has(func(x int) bool { return x/a == group })
			}
		}
		if next != len(sides) {
			t.Fatal(s, "has too many sides:", len(sides))
		}
	})
}
