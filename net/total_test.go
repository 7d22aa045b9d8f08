package net_test

import (
	"reflect"
	"slices"
	"testing"

	"armada/api"
	"armada/net"
)

// P0: no argument makes a function panic or go on for ever.
func TestAnything(t *testing.T) {
	networks := append(invalidNetworks(), smallNetworks()...)
	networks = append(networks, torus(16, 16), torus(4, 4, 4, 4), tree(4, 4), dragonfly(15, 1), net.Spec{Kind: net.Torus, Sides: slices.Repeat(list(2), 100000), Hosts: 1})
	for _, s := range networks {
		net.Check(s)
		net.Size(s)
		net.Links(s)
		net.Snake(s)
		net.Sides(s)
		for n := range 20 {
			net.Across(s, make([]bool, n))
		}
		net.Across(s, make([]bool, 100000))
		n, _ := net.New(s)
		n.Spec()
		n.Copy()
		for _, x := range oddNumbers() {
			net.Home(s, x)
			net.Place(s, x)
			net.Neighbors(s, x)
			n.Part(x)
			for _, y := range oddNumbers() {
				net.Distance(s, x, y)
				net.Hops(s, x, y)
				net.Route(s, x, y)
				net.Classes(s, x, y)
				n.Alive(x, y)
				n.Detour(x, y)
				n.Cut(x, y)
				n.Mend(y, x)
			}
			n.Down(x)
			n.Detour(1, 2)
			n.Up(x)
		}
	}
}

// P0, R2: a network can be destroyed altogether, and every error leaves it as it was.
func TestAllDamage(t *testing.T) {
	for _, s := range smallNetworks() {
		n, m := damaged(t, s), damageOf(s)
		for _, l := range m.links() {
			is(t, "Cut", n.Cut(l.B, l.A), api.OK)
		}
		for x := range m.switches {
			l, e := n.Part(x)
			isList(t, "Part", l, e, x)
		}
		for x := range m.switches {
			is(t, "Down", n.Down(x), api.OK)
			is(t, "Down", n.Down(x), api.ErrState)
			is(t, "Down", n.Down(x-m.switches), api.ErrRange)
		}
		for x := range m.switches {
			l, e := n.Part(x)
			isError(t, "Part", l, e, api.ErrState)
			is(t, "Up", n.Up(x), api.OK)
		}
		for _, l := range m.links() {
			is(t, "Cut", n.Cut(l.A, l.B), api.ErrState)
			alive, e := n.Alive(l.A, l.B)
			isTruth(t, "Alive", alive, e, false, api.OK)
			is(t, "Mend", n.Mend(l.A, l.B), api.OK)
		}
		for x := range m.switches {
			for y := range m.switches {
				looksLike(t, n, m, x, y)
			}
		}
	}
}

// R3: a damaged network that no function of the package made is not valid, and that comes before all other errors.
func TestNetsThatAreNotValid(t *testing.T) {
	for _, n := range []*net.Net{nil, {}, new(net.Net)} {
		if s := n.Spec(); s.Kind != 0 || len(s.Sides) != 0 || s.Hosts != 0 {
			t.Error("Spec:", s)
		}
		if n.Copy() != nil {
			t.Error("a copy of no network")
		}
		for _, x := range oddNumbers() {
			is(t, "Down", n.Down(x), api.ErrNil)
			is(t, "Up", n.Up(x), api.ErrNil)
			l, e := n.Part(x)
			isError(t, "Part", l, e, api.ErrNil)
			for _, y := range oddNumbers() {
				is(t, "Cut", n.Cut(x, y), api.ErrNil)
				is(t, "Mend", n.Mend(x, y), api.ErrNil)
				alive, e := n.Alive(x, y)
				isTruth(t, "Alive", alive, e, false, api.ErrNil)
				l, e := n.Detour(x, y)
				isError(t, "Detour", l, e, api.ErrNil)
			}
		}
		if s := n.Spec(); s.Kind != 0 || n.Copy() != nil {
			t.Error("it became valid")
		}
	}
}

// R3: an empty list is a nil list.
func TestNilLists(t *testing.T) {
	for _, sides := range [][]int{nil, {}} {
		for kind := range 5 {
			for hosts := range 3 {
				is(t, "Check", net.Check(net.Spec{Kind: kind, Sides: sides, Hosts: hosts}), api.ErrArg)
			}
		}
	}
	for _, side := range [][]bool{nil, {}} {
		n, e := net.Across(torus(2), side)
		isNumber(t, "Across", n, e, 0, api.ErrArg)
	}
}

// calls returns the results of all functions that get a Spec.
func calls(s net.Spec, side []bool) []any {
	var out []any
	keep := func(l any, e api.Errno) { out = append(out, l, e) }
	switches, hosts, e := net.Size(s)
	out = append(out, net.Check(s), switches, hosts, e)
	links, e := net.Links(s)
	keep(links, e)
	snake, e := net.Snake(s)
	keep(snake, e)
	sides, e := net.Sides(s)
	keep(sides, e)
	count, e := net.Across(s, side)
	keep(count, e)
	for x := range 4 {
		for what, f := range []func(s net.Spec, x int) ([]int, api.Errno){net.Place, net.Neighbors} {
			l, e := f(s, x)
			out = append(out, what)
			keep(l, e)
		}
		for _, f := range []func(s net.Spec, x, y int) ([]int, api.Errno){net.Hops, net.Route, net.Classes} {
			for y := range 4 {
				l, e := f(s, x, y)
				keep(l, e)
			}
		}
	}
	return out
}

// R4: arguments stay, and results share no memory with them, nor with each other.
func TestSpecsStay(t *testing.T) {
	for _, s := range append(smallNetworks(), mediumNetworks()...) {
		was := slices.Clone(s.Sides)
		switches, _, _ := net.Size(s)
		d := dice(9)
		side := d.side(switches)
		sideWas := slices.Clone(side)
		before := calls(s, side)
		for _, result := range calls(s, side) {
			switch l := result.(type) {
			case []int:
				scratch(l, 77)
			case []net.Link:
				scratch(l, net.Link{A: 77, B: 77})
			case [][]bool:
				for i, one := range l {
					scratch(one, i%2 == 0)
				}
				for i, one := range l {
					if slices.Contains(one, i%2 != 0) {
						t.Fatal(s, "sides share memory")
					}
				}
			}
		}
		if !slices.Equal(s.Sides, was) || !slices.Equal(side, sideWas) {
			t.Fatal(was, s.Sides)
		}
		if !reflect.DeepEqual(calls(s, side), before) {
			t.Fatal(s, "is not what it was")
		}
	}
}

// R4: a damaged network shares no memory with its Spec, nor with results.
func TestNetsKeepTheirMemory(t *testing.T) {
	for _, s := range smallNetworks() {
		d := dice(10)
		given := net.Spec{Kind: s.Kind, Sides: slices.Clone(s.Sides), Hosts: s.Hosts}
		n, m := damaged(t, given), damageOf(s)
		scratch(given.Sides, 77)
		ruin(t, &d, n, m, 1, 1)
		c := n.Copy()
		for _, one := range []*net.Net{n, c} {
			scratch(one.Spec().Sides, 77)
			for x := range m.switches {
				l, _ := one.Part(x)
				scratch(l, 77)
				for y := range m.switches {
					l, _ := one.Detour(x, y)
					scratch(l, 77)
				}
			}
		}
		for _, one := range []*net.Net{n, c} {
			if got := one.Spec(); got.Kind != s.Kind || got.Hosts != s.Hosts || !slices.Equal(got.Sides, s.Sides) {
				t.Fatal(s, got)
			}
			for x := range m.switches {
				for y := range m.switches {
					looksLike(t, one, m, x, y)
				}
			}
		}
		if t.Failed() {
			t.Fatal(s)
		}
	}
}
