package net_test

import (
	"slices"
	"testing"

	"armada/api"
	"armada/net"
)

// oddNumbers returns numbers at the edges of what can be given.
func oddNumbers() []int {
	return list(lowest, lowest+1, -1<<32, -2, -1, 0, 1, 2, 255, 256, 1<<32, 1<<62, highest-1, highest)
}

// invalidNetworks returns networks that are not valid.
func invalidNetworks() []net.Spec {
	out := []net.Spec{
		{},
		{Sides: list(2, 2), Hosts: 2},
		{Kind: net.Torus, Hosts: 1},
		{Kind: net.Torus, Sides: []int{}, Hosts: 1},
		{Kind: net.Tree, Hosts: 2},
		{Kind: net.Dragonfly, Hosts: 1},
		torus(1), torus(17), torus(0), torus(-2), torus(1, 2), torus(2, 1), torus(4, 17), torus(17, 4), torus(2, 2, 2, 2, 2), torus(16, 17), torus(16, 16, 2), torus(4, 4, 4, 5), torus(7, 37), torus(-4, -4), torus(1<<32, 1<<32),
		tree(1, 2), tree(9, 1), tree(2, 0), tree(2, 5), tree(2, 8), tree(7, 3), tree(5, 4), tree(8, 3), tree(0, 0), tree(-2, 2), tree(2, -2),
		{Kind: net.Tree, Sides: list(2), Hosts: 2}, {Kind: net.Tree, Sides: list(2, 2, 2), Hosts: 2},
		{Kind: net.Tree, Sides: list(2, 3), Hosts: 1}, {Kind: net.Tree, Sides: list(2, 3), Hosts: 3}, {Kind: net.Tree, Sides: list(2, 3)}, {Kind: net.Tree, Sides: list(2, 3), Hosts: -2},
		dragonfly(0, 1), dragonfly(1, 0), dragonfly(17, 1), dragonfly(16, 1), dragonfly(1, 5), dragonfly(8, 4), dragonfly(12, 2), dragonfly(10, 3), dragonfly(-1, 1), dragonfly(-4, -4), dragonfly(1<<32, 1),
		{Kind: net.Dragonfly, Sides: list(2), Hosts: 1}, {Kind: net.Dragonfly, Sides: list(2, 1, 1), Hosts: 1},
	}
	for _, s := range []net.Spec{torus(3, 4), tree(2, 3), dragonfly(2, 1)} {
		for _, kind := range list(lowest, -1, 0, 4, 1<<32+s.Kind, highest) {
			out = append(out, net.Spec{Kind: kind, Sides: s.Sides, Hosts: s.Hosts})
		}
		for _, hosts := range list(lowest, -1, 0, 5, 1<<32+1, highest) {
			out = append(out, net.Spec{Kind: s.Kind, Sides: s.Sides, Hosts: hosts})
		}
		for i := range s.Sides {
			for _, side := range list(lowest, lowest+1, -1<<32+2, -1, 0, 17, 256, 1<<32+2, 1<<62, highest) {
				bad := slices.Clone(s.Sides)
				bad[i] = side
				out = append(out, net.Spec{Kind: s.Kind, Sides: bad, Hosts: s.Hosts})
			}
		}
	}
	return out
}

// P4.1: which networks are valid.
func TestCheck(t *testing.T) {
	valid := append(smallNetworks(), mediumNetworks()...)
	valid = append(valid, torus(2), torus(16), torus(16, 16), torus(2, 2, 2, 2), torus(4, 4, 4, 4), torus(16, 4, 4), torus(2, 2, 4, 16),
		tree(2, 1), tree(8, 1), tree(2, 4), tree(4, 4), tree(6, 3), tree(8, 2), dragonfly(1, 1), dragonfly(1, 4), dragonfly(15, 1), dragonfly(11, 2), dragonfly(9, 3), dragonfly(7, 4))
	for hosts := 1; hosts <= 4; hosts++ {
		valid = append(valid, net.Spec{Kind: net.Torus, Sides: list(3, 4), Hosts: hosts}, net.Spec{Kind: net.Dragonfly, Sides: list(2, 1), Hosts: hosts})
	}
	for _, s := range valid {
		is(t, "a valid network", net.Check(s), api.OK)
	}
	for _, s := range invalidNetworks() {
		if e := net.Check(s); e != api.ErrArg {
			t.Error(s, e)
		}
	}
}

// P4.1: Check says of all networks with small numbers what the chapter says.
func TestCheckOfAll(t *testing.T) {
	for a := -1; a <= 18; a++ {
		for b := -1; b <= 18; b++ {
			for hosts := -1; hosts <= 9; hosts++ {
				few := 1 <= hosts && hosts <= 4
				for kind, valid := range map[int]bool{
					net.Torus:     2 <= a && a <= 16 && 2 <= b && b <= 16 && a*b <= 256 && few,
					net.Tree:      2 <= a && a <= 8 && 1 <= b && b <= 4 && modelPower(a, max(b, 0)) <= 256 && hosts == a,
					net.Dragonfly: 1 <= a && a <= 16 && 1 <= b && b <= 4 && a*(a*b+1) <= 256 && few,
					0:             false,
					4:             false,
				} {
					s := net.Spec{Kind: kind, Sides: list(a, b), Hosts: hosts}
					if e := net.Check(s); (e == api.OK) != valid || e != api.OK && e != api.ErrArg {
						t.Fatal(s, e)
					}
				}
			}
		}
	}
}

// P4.1: all other functions return the error of Check first.
func TestInvalidNetworks(t *testing.T) {
	for _, s := range invalidNetworks() {
		switches, hosts, e := net.Size(s)
		if switches != 0 || hosts != 0 || e != api.ErrArg {
			t.Error("Size:", s, switches, hosts, e)
		}
		links, e := net.Links(s)
		isError(t, "Links", links, e, api.ErrArg)
		snake, e := net.Snake(s)
		isError(t, "Snake", snake, e, api.ErrArg)
		sides, e := net.Sides(s)
		isError(t, "Sides", sides, e, api.ErrArg)
		if n, e := net.New(s); n != nil || e != api.ErrArg {
			t.Error("New:", s, n, e)
		}
		for _, side := range [][]bool{nil, make([]bool, 12), make([]bool, 6)} {
			count, e := net.Across(s, side)
			isNumber(t, "Across", count, e, 0, api.ErrArg)
		}
		for _, x := range list(0, -1, highest) {
			home, e := net.Home(s, x)
			isNumber(t, "Home", home, e, 0, api.ErrArg)
			place, e := net.Place(s, x)
			isError(t, "Place", place, e, api.ErrArg)
			near, e := net.Neighbors(s, x)
			isError(t, "Neighbors", near, e, api.ErrArg)
			for _, y := range list(0, -1, highest) {
				distance, e := net.Distance(s, x, y)
				isNumber(t, "Distance", distance, e, 0, api.ErrArg)
				for what, f := range map[string]func(s net.Spec, x, y int) ([]int, api.Errno){"Hops": net.Hops, "Route": net.Route, "Classes": net.Classes} {
					l, e := f(s, x, y)
					isError(t, what, l, e, api.ErrArg)
				}
			}
		}
	}
}

// P4.1: how many switches and hosts there are.
func TestSize(t *testing.T) {
	for _, x := range []struct {
		s               net.Spec
		switches, hosts int
	}{
		{torus(3, 4), 12, 12}, // the chapter's examples
		{tree(2, 3), 12, 8},
		{dragonfly(2, 1), 6, 6},
		{net.Spec{Kind: net.Torus, Sides: list(3, 4), Hosts: 4}, 12, 48},
		{net.Spec{Kind: net.Torus, Sides: list(16, 16), Hosts: 4}, 256, 1024},
		{torus(2), 2, 2},
		{torus(4, 4, 4, 4), 256, 256},
		{tree(2, 1), 1, 2},
		{tree(8, 1), 1, 8},
		{tree(8, 2), 16, 64},
		{tree(4, 4), 256, 256},
		{tree(6, 3), 108, 216},
		{dragonfly(1, 1), 2, 2},
		{dragonfly(1, 4), 5, 5},
		{net.Spec{Kind: net.Dragonfly, Sides: list(7, 4), Hosts: 3}, 203, 609},
	} {
		switches, hosts, e := net.Size(x.s)
		if switches != x.switches || hosts != x.hosts || e != api.OK {
			t.Error(x.s, switches, hosts, e)
		}
	}
	everyNetwork(func(s net.Spec) {
		switches, hosts, e := net.Size(s)
		want := 1
		switch a := s.Sides[0]; s.Kind {
		case net.Torus:
			for _, side := range s.Sides {
				want *= side
			}
		case net.Tree:
			want = s.Sides[1] * modelPower(a, s.Sides[1]-1)
			if hosts != modelPower(a, s.Sides[1]) {
				t.Error(s, hosts)
			}
		case net.Dragonfly:
			want = a * (a*s.Sides[1] + 1)
		}
		if switches != want || e != api.OK || s.Kind != net.Tree && hosts != want {
			t.Error(s, switches, hosts, e)
		}
	})
}

// P4.1: the home of a host.
func TestHome(t *testing.T) {
	for _, s := range append(smallNetworks(), mediumNetworks()...) {
		for hosts := 1; hosts <= 4; hosts++ {
			if s.Kind != net.Tree {
				s.Hosts = hosts
			}
			_, count, _ := net.Size(s)
			for x := range count {
				home, e := net.Home(s, x)
				isNumber(t, "Home", home, e, x/s.Hosts, api.OK)
			}
			for _, x := range list(count, -1, count+1, 1<<32, highest, lowest) {
				home, e := net.Home(s, x)
				isNumber(t, "Home", home, e, 0, api.ErrRange)
			}
		}
	}
	home, e := net.Home(tree(2, 3), 5)
	isNumber(t, "Home of 5", home, e, 2, api.OK)
}

// P4.1: where a switch is.
func TestPlace(t *testing.T) {
	for _, x := range []struct {
		s      net.Spec
		number int
		want   []int
	}{
		{torus(3, 4), 7, list(1, 3)}, // the chapter's examples
		{tree(2, 3), 7, list(1, 3)},
		{torus(3, 4), 0, list(0, 0)},
		{torus(3, 4), 11, list(2, 3)},
		{torus(5), 3, list(3)},
		{torus(2, 3, 4, 5), 119, list(1, 2, 3, 4)},
		{torus(2, 3, 4, 5), 60, list(1, 0, 0, 0)},
		{torus(2, 3, 4, 5), 21, list(0, 1, 0, 1)},
		{tree(2, 3), 11, list(2, 3)},
		{tree(2, 3), 3, list(0, 3)},
		{tree(3, 1), 0, list(0, 0)},
		{dragonfly(2, 1), 5, list(2, 1)},
		{dragonfly(3, 2), 16, list(5, 1)},
		{dragonfly(1, 4), 3, list(3, 0)},
	} {
		l, e := net.Place(x.s, x.number)
		isList(t, "Place", l, e, x.want...)
	}
	everyNetwork(func(s net.Spec) {
		switches, _, _ := net.Size(s)
		for x := 0; x < switches; x += max(1, switches/7) {
			l, e := net.Place(s, x)
			want := digits(x, s.Sides)
			switch s.Kind {
			case net.Tree:
				level := modelPower(s.Sides[0], s.Sides[1]-1)
				want = list(x/level, x%level)
			case net.Dragonfly:
				want = list(x/s.Sides[0], x%s.Sides[0])
			}
			isList(t, "Place", l, e, want...)
		}
	})
}

// P4.1, P4.2, P4.3, P4.4: switches that there are not.
func TestNoSuchSwitches(t *testing.T) {
	for _, s := range append(smallNetworks(), mediumNetworks()...) {
		switches, _, _ := net.Size(s)
		wrong := list(switches, switches+1, -1, lowest, highest, 1<<32, -1<<32)
		for _, x := range wrong {
			l, e := net.Place(s, x)
			isError(t, "Place", l, e, api.ErrRange)
			l, e = net.Neighbors(s, x)
			isError(t, "Neighbors", l, e, api.ErrRange)
			for _, y := range append(wrong, 0, switches-1) {
				for _, pair := range [][2]int{{x, y}, {y, x}} {
					n, e := net.Distance(s, pair[0], pair[1])
					isNumber(t, "Distance", n, e, 0, api.ErrRange)
					for what, f := range map[string]func(s net.Spec, x, y int) ([]int, api.Errno){"Hops": net.Hops, "Route": net.Route, "Classes": net.Classes} {
						l, e := f(s, pair[0], pair[1])
						isError(t, what, l, e, api.ErrRange)
					}
				}
			}
		}
	}
}
