package net_test

import (
	"slices"
	"testing"

	"armada/api"
	"armada/net"
)

// ruin damages a network and its model alike: some switches are down, and some links are cut, which are some of those of whatever switches.
func ruin(t *testing.T, d *dice, n *net.Net, m *damage, switches, links int) {
	t.Helper()
	for range switches {
		if x := d.roll(m.switches); n.Down(x) == api.OK {
			m.down[x] = true
		}
	}
	all := m.links()
	for range links {
		if len(all) == 0 {
			return
		}
		l := all[d.roll(len(all))]
		x, y := l.A, l.B
		if d.roll(2) == 0 {
			x, y = y, x
		}
		if n.Cut(x, y) == api.OK {
			m.cut[l] = true
		}
	}
}

// P4.6: a new network has no damage, and its Spec.
func TestNew(t *testing.T) {
	for _, s := range append(smallNetworks(), mediumNetworks()...) {
		n := damaged(t, s)
		if got := n.Spec(); got.Kind != s.Kind || got.Hosts != s.Hosts || !slices.Equal(got.Sides, s.Sides) {
			t.Error(s, got)
		}
		m := modelOf(s)
		for _, l := range m.links() {
			alive, e := n.Alive(l.A, l.B)
			isTruth(t, "Alive", alive, e, true, api.OK)
		}
		all := make([]int, m.switches)
		for x := range all {
			all[x] = x
			is(t, "Up of a new network", n.Up(x), api.ErrState)
		}
		l, e := n.Part(m.switches - 1)
		isList(t, "Part", l, e, all...)
	}
	n := damaged(t, net.Spec{Kind: net.Torus, Sides: list(3, 4), Hosts: 3})
	if s := n.Spec(); s.Kind != net.Torus || s.Hosts != 3 || !slices.Equal(s.Sides, list(3, 4)) {
		t.Error(s)
	}
}

// P4.6: switches that go down and come up.
func TestDownAndUp(t *testing.T) {
	n := damaged(t, torus(4))
	is(t, "Up of a switch that is up", n.Up(1), api.ErrState)
	is(t, "Down", n.Down(1), api.OK)
	is(t, "Down again", n.Down(1), api.ErrState)
	l, e := n.Part(0)
	isList(t, "Part", l, e, 0, 2, 3)
	l, e = n.Part(1)
	isError(t, "Part of a switch that is down", l, e, api.ErrState)
	is(t, "Down of another one", n.Down(3), api.OK)
	l, e = n.Part(0)
	isList(t, "Part", l, e, 0)
	is(t, "Up", n.Up(1), api.OK)
	is(t, "Up again", n.Up(1), api.ErrState)
	l, e = n.Part(0)
	isList(t, "Part", l, e, 0, 1, 2)
	is(t, "Down once more", n.Down(1), api.OK)
	for _, x := range list(4, -1, 5, lowest, highest, 1<<32) {
		is(t, "Down of no switch", n.Down(x), api.ErrRange)
		is(t, "Up of no switch", n.Up(x), api.ErrRange)
	}
	l, e = n.Part(2)
	isList(t, "Part", l, e, 2)
}

// P4.6: links that are cut and mended, in either direction.
func TestCutAndMend(t *testing.T) {
	n := damaged(t, torus(4))
	is(t, "Mend of a link that is not cut", n.Mend(0, 1), api.ErrState)
	for _, x := range [][4]int{{0, 1, 0, 1}, {1, 0, 1, 0}, {0, 1, 1, 0}, {1, 0, 0, 1}} {
		is(t, "Cut", n.Cut(x[0], x[1]), api.OK)
		is(t, "Cut again", n.Cut(x[0], x[1]), api.ErrState)
		is(t, "Cut the other way around", n.Cut(x[1], x[0]), api.ErrState)
		for _, way := range [][2]int{{0, 1}, {1, 0}} {
			alive, e := n.Alive(way[0], way[1])
			isTruth(t, "Alive", alive, e, false, api.OK)
		}
		alive, e := n.Alive(1, 2)
		isTruth(t, "Alive of another link", alive, e, true, api.OK)
		is(t, "Mend of another link", n.Mend(1, 2), api.ErrState)
		is(t, "Mend", n.Mend(x[2], x[3]), api.OK)
		is(t, "Mend again", n.Mend(x[2], x[3]), api.ErrState)
		is(t, "Mend the other way around", n.Mend(x[3], x[2]), api.ErrState)
		alive, e = n.Alive(0, 1)
		isTruth(t, "Alive of a link that was mended", alive, e, true, api.OK)
	}
}

// P4.6: whether switches are up does not matter for cuts, and cuts do not matter for switches.
func TestCutsOfSwitchesThatAreDown(t *testing.T) {
	n := damaged(t, torus(4))
	is(t, "Down", n.Down(1), api.OK)
	is(t, "Cut", n.Cut(0, 1), api.OK)
	is(t, "Cut again", n.Cut(1, 0), api.ErrState)
	is(t, "Mend of a link of a switch that is down", n.Mend(1, 2), api.ErrState)
	is(t, "Up", n.Up(1), api.OK)
	alive, e := n.Alive(0, 1)
	isTruth(t, "Alive of a link that was cut meanwhile", alive, e, false, api.OK)
	alive, e = n.Alive(1, 2)
	isTruth(t, "Alive of a link of a switch that came up", alive, e, true, api.OK)
	is(t, "Down", n.Down(1), api.OK)
	is(t, "Mend", n.Mend(0, 1), api.OK)
	alive, e = n.Alive(0, 1)
	isTruth(t, "Alive of a link of a switch that is down", alive, e, false, api.OK)
	is(t, "Up", n.Up(1), api.OK)
	alive, e = n.Alive(0, 1)
	isTruth(t, "Alive", alive, e, true, api.OK)
}

// P4.6, P4.7: links that there are not.
func TestNoSuchLinks(t *testing.T) {
	for _, s := range smallNetworks() {
		n, m := damaged(t, s), modelOf(s)
		for x := range m.switches {
			for y := range m.switches {
				want := api.ErrNone
				if m.linked[x][y] {
					want = api.OK
				}
				alive, e := n.Alive(x, y)
				isTruth(t, "Alive", alive, e, want == api.OK, want)
				if want == api.OK {
					is(t, "Cut", n.Cut(x, y), want)
					is(t, "Mend", n.Mend(x, y), want)
					continue
				}
				is(t, "Cut", n.Cut(x, y), want)
				is(t, "Mend", n.Mend(x, y), want)
			}
			for _, y := range list(m.switches, -1, lowest, highest, 1<<32) {
				for _, pair := range [][2]int{{x, y}, {y, x}, {y, y}} {
					is(t, "Cut", n.Cut(pair[0], pair[1]), api.ErrRange)
					is(t, "Mend", n.Mend(pair[0], pair[1]), api.ErrRange)
					alive, e := n.Alive(pair[0], pair[1])
					isTruth(t, "Alive", alive, e, false, api.ErrRange)
				}
			}
		}
		if t.Failed() {
			t.Fatal(s)
		}
	}
	n := damaged(t, torus(4))
	n.Down(0)
	n.Down(2)
	is(t, "switches that are down have no more links than before", n.Cut(0, 2), api.ErrNone)
}

// P4.6: a copy has the same damage, and goes its own way.
func TestCopy(t *testing.T) {
	n := damaged(t, torus(4))
	is(t, "Down", n.Down(3), api.OK)
	is(t, "Cut", n.Cut(1, 2), api.OK)
	c := n.Copy()
	if s := c.Spec(); s.Kind != net.Torus || s.Hosts != 1 || !slices.Equal(s.Sides, list(4)) {
		t.Error(s)
	}
	is(t, "Down of a copy", c.Down(3), api.ErrState)
	is(t, "Cut of a copy", c.Cut(1, 2), api.ErrState)
	l, e := c.Part(0)
	isList(t, "Part of a copy", l, e, 0, 1)
	is(t, "Up of a copy", c.Up(3), api.OK)
	is(t, "Mend of a copy", c.Mend(1, 2), api.OK)
	is(t, "Down of the first one", n.Down(0), api.OK)
	is(t, "Cut of the first one", n.Cut(0, 1), api.OK)
	l, e = c.Part(0)
	isList(t, "Part of a copy", l, e, 0, 1, 2, 3)
	l, e = n.Part(1)
	isList(t, "Part of the first one", l, e, 1)
	alive, e := n.Alive(1, 2)
	isTruth(t, "Alive of the first one", alive, e, false, api.OK)
	alive, e = c.Alive(0, 1)
	isTruth(t, "Alive of a copy", alive, e, true, api.OK)
}

// P4.7: the rows of the chapter's examples, and detours found by hand.
func TestDetours(t *testing.T) {
	n := damaged(t, torus(2, 2))
	l, e := n.Detour(1, 2)
	isList(t, "the chapter's first example", l, e, 1, 0, 2)
	l, e = n.Detour(2, 1)
	isList(t, "Detour the other way", l, e, 2, 0, 1)
	l, e = n.Detour(0, 3)
	isList(t, "the least one of two", l, e, 0, 1, 3)
	l, e = n.Detour(3, 0)
	isList(t, "the least one of two", l, e, 3, 1, 0)

	n = damaged(t, torus(4))
	is(t, "Cut", n.Cut(0, 1), api.OK)
	l, e = n.Detour(0, 1)
	isList(t, "the chapter's second example", l, e, 0, 3, 2, 1)
	is(t, "Down", n.Down(3), api.OK)
	l, e = n.Detour(0, 1)
	isError(t, "Detour to another part", l, e, api.ErrLost)
	l, e = n.Part(0)
	isList(t, "Part", l, e, 0)
	l, e = n.Part(2)
	isList(t, "Part", l, e, 1, 2)
	l, e = n.Detour(2, 1)
	isList(t, "Detour in a part", l, e, 2, 1)
	l, e = n.Detour(0, 0)
	isList(t, "Detour to itself", l, e, 0)

	// In a ring of six the ranks are 0, 1, 2, 3, 2, 1: from 2 to 4 the way over 3 is not lawful.
	n = damaged(t, torus(6))
	l, e = n.Detour(2, 4)
	isList(t, "a longer way", l, e, 2, 1, 0, 5, 4)
	// Without 0, 1 is the root, and the ranks of 2 to 5 are 1 to 4.
	is(t, "Down", n.Down(0), api.OK)
	l, e = n.Detour(2, 4)
	isList(t, "the way of another root", l, e, 2, 3, 4)
	l, e = n.Detour(5, 1)
	isList(t, "up all the way", l, e, 5, 4, 3, 2, 1)

	// In a ring of five 2 and 3 have the same rank: from 3 to 2 is up.
	n = damaged(t, torus(5))
	l, e = n.Detour(1, 3)
	isList(t, "down twice", l, e, 1, 2, 3)
	l, e = n.Detour(3, 1)
	isList(t, "up twice", l, e, 3, 2, 1)
	l, e = n.Detour(4, 2)
	isList(t, "down and up is not lawful", l, e, 4, 0, 1, 2)
	l, e = n.Detour(2, 4)
	isList(t, "down and up is not lawful", l, e, 2, 1, 0, 4)
}

// P4.7: the errors of Alive, Part and Detour, in their order.
func TestErrorsOfDetours(t *testing.T) {
	n := damaged(t, torus(2, 4))
	for _, x := range list(1, 3, 5, 7) {
		is(t, "Down", n.Down(x), api.OK)
	}
	for _, x := range []struct {
		x, y int
		want api.Errno
	}{
		{0, 4, api.OK}, {2, 6, api.OK}, {0, 2, api.ErrLost}, {6, 0, api.ErrLost},
		{1, 0, api.ErrState}, {0, 1, api.ErrState}, {1, 1, api.ErrState}, {1, 3, api.ErrState},
		{8, 0, api.ErrRange}, {0, 8, api.ErrRange}, {8, 1, api.ErrRange}, {1, 8, api.ErrRange}, {-1, 1, api.ErrRange}, {1, -1, api.ErrRange}, {lowest, highest, api.ErrRange}, {0, 1 << 32, api.ErrRange},
	} {
		l, e := n.Detour(x.x, x.y)
		if e != x.want || (len(l) > 0) != (e == api.OK) {
			t.Error("Detour:", x, l, e)
		}
	}
	for _, x := range list(1, 3, 5, 7) {
		l, e := n.Part(x)
		isError(t, "Part", l, e, api.ErrState)
		alive, e := n.Alive(x, x-1)
		isTruth(t, "Alive", alive, e, false, api.OK)
	}
	for _, x := range list(8, -1, lowest, highest, 1<<32) {
		l, e := n.Part(x)
		isError(t, "Part", l, e, api.ErrRange)
	}
	alive, e := n.Alive(1, 3)
	isTruth(t, "Alive of two switches that are down, and not linked", alive, e, false, api.ErrNone)
}

// P4.6, P4.7: what many calls do is what the model says.
func TestCallsLikeTheModel(t *testing.T) {
	d := dice(3)
	for _, s := range smallNetworks() {
		n, m := damaged(t, s), damageOf(s)
		for range 150 {
			x, y := d.roll(m.switches), d.roll(m.switches)
			link := net.Link{A: min(x, y), B: max(x, y)}
			cut := func(is bool) api.Errno {
				switch {
				case !m.linked[x][y]:
					return api.ErrNone
				case m.cut[link] == is:
					return api.ErrState
				}
				m.cut[link] = is
				return api.OK
			}
			down := func(is bool) api.Errno {
				if m.down[x] == is {
					return api.ErrState
				}
				m.down[x] = is
				return api.OK
			}
			switch d.roll(9) {
			case 0:
				is(t, "Down", n.Down(x), down(true))
			case 1, 2:
				is(t, "Up", n.Up(x), down(false))
			case 3, 4:
				is(t, "Cut", n.Cut(x, y), cut(true))
			case 5:
				is(t, "Mend", n.Mend(x, y), cut(false))
			case 6:
				n = n.Copy()
			}
			looksLike(t, n, m, x, y)
			if t.Failed() {
				t.Fatal(s, m.down, m.cut)
			}
		}
	}
}

// looksLike fails unless what can be asked of two switches is as the model says.
func looksLike(t *testing.T, n *net.Net, m *damage, x, y int) {
	t.Helper()
	alive, e := n.Alive(x, y)
	want := api.ErrNone
	if m.linked[x][y] {
		want = api.OK
	}
	isTruth(t, "Alive", alive, e, m.alive(x, y), want)
	part, e := n.Part(x)
	if m.down[x] {
		isError(t, "Part", part, e, api.ErrState)
	} else {
		isList(t, "Part", part, e, m.part(x)...)
	}
	path, e := n.Detour(x, y)
	switch {
	case m.down[x] || m.down[y]:
		isError(t, "Detour", path, e, api.ErrState)
	case !slices.Contains(m.part(x), y):
		isError(t, "Detour", path, e, api.ErrLost)
	default:
		isList(t, "Detour", path, e, m.detour(x, y)...)
	}
}

// P4.7: all detours of damaged networks are the least of the shortest lawful paths.
func TestDetoursLikeTheModel(t *testing.T) {
	d := dice(4)
	for _, s := range smallNetworks() {
		for round := range 6 {
			n, m := damaged(t, s), damageOf(s)
			ruin(t, &d, n, m, round/2, round%3*len(m.links())/6)
			for x := range m.switches {
				for y := range m.switches {
					looksLike(t, n, m, x, y)
				}
			}
			if t.Failed() {
				t.Fatal(s, m.down, m.cut)
			}
		}
	}
}
