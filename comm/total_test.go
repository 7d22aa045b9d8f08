package comm_test

import (
	"slices"
	"testing"

	"armada/api"
	"armada/comm"
)

// P0: no argument makes a function of groups panic or go on for ever.
func TestAnyGroups(t *testing.T) {
	odd := list(lowest, lowest+1, -64, -2, -1, 0, 1, 2, 63, 64, 65, highest-1, highest)
	lists := [][]int{nil, {}, odd, upTo(64), upTo(65), times(100000, 0), times(100000, none), list(1, 2)}
	for _, n := range odd {
		lists = append(lists, list(n), list(n, n), list(1, n))
	}
	for _, a := range lists {
		comm.Check(a)
		for _, b := range lists {
			comm.Incl(a, b)
			comm.Excl(a, b)
			comm.Union(a, b)
			comm.Inter(a, b)
			comm.Diff(a, b)
			comm.Compare(a, b)
			for _, ranks := range lists {
				comm.Translate(a, ranks, b)
			}
		}
	}
	for _, n := range odd {
		comm.New(n)
		for _, first := range odd {
			for _, last := range odd {
				for _, stride := range odd {
					comm.Ranges(n, [][3]int{{first, last, stride}, {last, first, stride}})
				}
			}
		}
	}
	comm.Ranges(64, times(100000, [3]int{1, 0, 1}))
}

// P0: no argument makes a function of spaces or of grids panic or go on for ever.
func TestAnySpacesAndGrids(t *testing.T) {
	odd := list(lowest, lowest+1, -2, -1, 0, 1, 2, 4, 5, 63, 64, 65, highest-1, highest)
	full := filled(t, 2, 64)
	for _, s := range []*comm.Space{nil, {}, space(t, 1), space(t, 64), full} {
		s.Contexts()
		for _, context := range odd {
			s.Group(context)
			s.Copy().Dup(context)
			s.Copy().Free(context)
			for _, n := range odd {
				s.Copy().Make(context, list(n))
				s.Copy().Make(context, list(1, n))
				s.Copy().Split(context, list(n), list(n))
				s.Copy().Split(context, list(n, 0), list(n))
				s.Copy().Split(context, list(n, 0), list(0, n))
			}
		}
	}
	grids := []comm.Grid{{}, {Sizes: upTo(9)}, {Wrap: make([]bool, 9)}, example()}
	for _, n := range odd {
		for _, m := range odd {
			comm.Factor(n, m)
		}
		grids = append(grids, comm.Grid{Sizes: list(n), Wrap: []bool{false}}, comm.Grid{Sizes: list(1, n), Wrap: []bool{true, true}}, comm.Grid{Sizes: list(n, n, n, n), Wrap: make([]bool, 4)})
	}
	for _, g := range grids {
		for n := range 6 {
			comm.Sub(g, make([]bool, n))
		}
		for _, n := range odd {
			comm.Coords(g, n)
			comm.Neighbors(g, n)
			for _, m := range odd {
				comm.Rank(g, list(n, m))
				for _, by := range odd {
					comm.Shift(g, n, m, by)
				}
			}
		}
	}
}

// R3: a space that no function of the package made is not valid, and that comes before all other errors.
func TestSpacesThatAreNotValid(t *testing.T) {
	for _, s := range []*comm.Space{nil, {}, new(comm.Space)} {
		for _, context := range list(0, 1, -1, highest) {
			g, e := s.Group(context)
			isError(t, "Group", g, e, api.ErrNil)
			c, e := s.Dup(context)
			isNumber(t, "Dup", c, e, 0, api.ErrNil)
			for _, g := range [][]int{nil, {0}, {-1}, {1, 1}} {
				c, e = s.Make(context, g)
				isNumber(t, "Make", c, e, 0, api.ErrNil)
				l, e := s.Split(context, g, g)
				isError(t, "Split", l, e, api.ErrNil)
			}
			l, e := s.Split(context, list(1), nil)
			isError(t, "Split", l, e, api.ErrNil)
			if e := s.Free(context); e != api.ErrNil {
				t.Error(e)
			}
		}
		hasContexts(t, s)
		if s.Copy() != nil {
			t.Error("a copy of no space")
		}
	}
}

// R3: nil lists are empty lists.
func TestNilLists(t *testing.T) {
	empty := []int{}
	for _, x := range [][2][]int{{nil, nil}, {nil, empty}, {empty, nil}, {empty, empty}} {
		a, b := x[0], x[1]
		for name, f := range map[string]func(a, b []int) ([]int, api.Errno){
			"Union": comm.Union, "Inter": comm.Inter, "Diff": comm.Diff, "Incl": comm.Incl, "Excl": comm.Excl,
			"Translate": func(a, b []int) ([]int, api.Errno) { return comm.Translate(a, b, a) },
		} {
			l, e := f(a, b)
			isList(t, name, l, e)
		}
		n, e := comm.Compare(a, b)
		isNumber(t, "Compare", n, e, comm.Ident, api.OK)
	}
}

// scratch overwrites a result.
func scratch[T any](l []T, x T) {
	l = l[:cap(l)]
	for i := range l {
		l[i] = x
	}
}

// R4: results share no memory with arguments, and arguments stay.
func TestGroupsStay(t *testing.T) {
	a, b, ranks := list(3, 1, 2), list(2, 5, 3), list(2, 0, 1)
	ranges := [][3]int{{1, 3, 1}}
	results := func() [][]int {
		var out [][]int
		keep := func(l []int, e api.Errno) { out = append(out, l) }
		keep(comm.Union(a, b))
		keep(comm.Union(a, nil))
		keep(comm.Union(nil, a))
		keep(comm.Union(a[:1], a[1:]))
		keep(comm.Inter(a, a))
		keep(comm.Diff(a, nil))
		keep(comm.Incl(a, ranks))
		keep(comm.Incl(a, upTo(3)))
		keep(comm.Excl(a, nil))
		keep(comm.Translate(a, ranks, a))
		keep(comm.Ranges(8, ranges))
		return out
	}
	before := results()
	for _, l := range results() {
		scratch(l, 77)
	}
	if !slices.Equal(a, list(3, 1, 2)) || !slices.Equal(b, list(2, 5, 3)) || !slices.Equal(ranks, list(2, 0, 1)) || ranges[0] != [3]int{1, 3, 1} {
		t.Error(a, b, ranks, ranges)
	}
	for i, l := range results() {
		if !slices.Equal(l, before[i]) {
			t.Errorf("call %d: %v, then %v", i, before[i], l)
		}
	}
}

// R4: spaces share no memory with arguments or results.
func TestSpacesKeepTheirMemory(t *testing.T) {
	s := space(t, 4)
	g, colors, keys := list(3, 1), list(0, none, 0, 1), list(2, 9, 1, 0)
	s.Make(0, g)
	s.Dup(1)
	made, _ := s.Split(0, colors, keys)
	c := s.Copy()
	if !slices.Equal(colors, list(0, none, 0, 1)) || !slices.Equal(keys, list(2, 9, 1, 0)) || !slices.Equal(g, list(3, 1)) {
		t.Error(g, colors, keys)
	}
	scratch(g, 77)
	scratch(colors, 77)
	scratch(keys, 77)
	scratch(made, 77)
	scratch(s.Contexts(), 77)
	for context := range 5 {
		l, _ := s.Group(context)
		scratch(l, 77)
	}
	for _, x := range []*comm.Space{s, c} {
		hasContexts(t, x, 0, 1, 2, 3, 4)
		hasGroup(t, x, 0, 0, 1, 2, 3)
		hasGroup(t, x, 1, 3, 1)
		hasGroup(t, x, 2, 3, 1)
		hasGroup(t, x, 3, 2, 0)
		hasGroup(t, x, 4, 3)
	}
}

// R4: results share no memory with grids, nor with one another.
func TestGridsStay(t *testing.T) {
	g, at := example(), list(1, -2)
	comm.Rank(g, at)
	for _, keep := range [][]bool{{true, true}, {false, true}, {false, false}} {
		was := slices.Clone(keep)
		sub, parts, ranks, _ := comm.Sub(g, keep)
		again, parts2, ranks2, _ := comm.Sub(g, keep)
		scratch(sub.Sizes, 77)
		scratch(sub.Wrap, true)
		scratch(parts, 77)
		if !slices.Equal(ranks, ranks2) || slices.Contains(parts2, 77) || slices.Contains(again.Sizes, 77) || !slices.Equal(keep, was) {
			t.Error(keep, ranks, ranks2, parts2, again)
		}
	}
	one, _, _, _ := comm.Sub(g, []bool{false, false})
	if len(one.Wrap) != 1 || one.Wrap[0] || one.Sizes[0] != 1 {
		t.Error(one)
	}
	for r := range 12 {
		l, _ := comm.Coords(g, r)
		scratch(l, 77)
		l, _ = comm.Neighbors(g, r)
		scratch(l, 77)
		comm.Shift(g, r, 1, highest)
	}
	for n := 1; n <= 64; n++ {
		l, _ := comm.Factor(n, 4)
		scratch(l, 77)
	}
	l, e := comm.Factor(12, 3)
	isList(t, "Factor", l, e, 3, 2, 2)
	if !slices.Equal(g.Sizes, list(3, 4)) || !slices.Equal(g.Wrap, []bool{false, true}) || !slices.Equal(at, list(1, -2)) {
		t.Error(g, at)
	}
}
