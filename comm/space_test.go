package comm_test

import (
	"fmt"
	"slices"
	"testing"

	"armada/api"
	"armada/comm"
)

// space returns a new space of n processes.
func space(t *testing.T, n int) *comm.Space {
	t.Helper()
	s, e := comm.New(n)
	if s == nil || e != api.OK {
		t.Fatal(n, e)
	}
	return s
}

// filled returns a space with some communicators.
func filled(t *testing.T, n, communicators int) *comm.Space {
	t.Helper()
	s := space(t, n)
	for i := 1; i < communicators; i++ {
		c, e := s.Dup(0)
		isNumber(t, "Dup", c, e, i, api.OK)
	}
	return s
}

func hasContexts(t *testing.T, s *comm.Space, want ...int) {
	t.Helper()
	if l := s.Contexts(); !slices.Equal(l, want) {
		t.Errorf("the contexts are %v, not %v", l, want)
	}
}

func hasGroup(t *testing.T, s *comm.Space, context int, want ...int) {
	t.Helper()
	g, e := s.Group(context)
	isList(t, "Group", g, e, want...)
}

// P2.6.
func TestNew(t *testing.T) {
	for _, n := range list(1, 2, 63, 64) {
		s := space(t, n)
		hasContexts(t, s, 0)
		hasGroup(t, s, 0, upTo(n)...)
	}
	for _, n := range list(0, -1, 65, lowest, highest) {
		if s, e := comm.New(n); s != nil || e != api.ErrRange {
			t.Errorf("%d: %v %v", n, s, e)
		}
	}
	if comm.MaxComms != 64 {
		t.Error("MaxComms")
	}
}

// P2.6: Contexts and Group.
func TestContexts(t *testing.T) {
	s := filled(t, 2, 12)
	for _, c := range list(3, 1, 10) {
		if e := s.Free(c); e != api.OK {
			t.Error(c, e)
		}
	}
	hasContexts(t, s, 0, 2, 4, 5, 6, 7, 8, 9, 11)
	for _, c := range list(3, 1, 10, 12, -1, none, lowest, highest) {
		g, e := s.Group(c)
		isError(t, "Group", g, e, api.ErrNone)
	}
	hasGroup(t, s, 11, 0, 1)
}

// P2.6: a copy has the same communicators, and goes its own way.
func TestCopy(t *testing.T) {
	s := space(t, 5)
	s.Make(0, list(4, 2))
	s.Dup(1)
	s.Free(1)
	c := s.Copy()
	hasContexts(t, c, 0, 2)
	hasGroup(t, c, 0, 0, 1, 2, 3, 4)
	hasGroup(t, c, 2, 4, 2)
	made, e := c.Make(2, list(2))
	isNumber(t, "Make in the copy", made, e, 1, api.OK)
	hasContexts(t, s, 0, 2)
	s.Free(2)
	hasContexts(t, c, 0, 1, 2)
	hasGroup(t, c, 2, 4, 2)
	made, e = s.Make(0, list(3, 0, 1))
	isNumber(t, "Make in the space", made, e, 1, api.OK)
	hasGroup(t, c, 1, 2)
	hasGroup(t, s, 1, 3, 0, 1)
	hasContexts(t, c.Copy(), 0, 1, 2)
}

// P2.7 and P2.8: the chapter's examples.
func TestExampleOfSpaces(t *testing.T) {
	s := space(t, 4)
	c, e := s.Dup(0)
	isNumber(t, "Dup", c, e, 1, api.OK)
	l, e := s.Split(0, list(1, 0, 1, none), list(5, 0, 2, 0))
	isList(t, "Split", l, e, 3, 2, 3, none)
	hasGroup(t, s, 3, 2, 0)
	hasGroup(t, s, 2, 1)
	if e := s.Free(1); e != api.OK {
		t.Error(e)
	}
	c, e = s.Dup(3)
	isNumber(t, "Dup", c, e, 1, api.OK)
	hasGroup(t, s, 1, 2, 0)
	if e := s.Free(0); e != api.ErrState {
		t.Error(e)
	}
	hasContexts(t, s, 0, 1, 2, 3)
}

// P2.7: Dup.
func TestDup(t *testing.T) {
	s := space(t, 6)
	s.Make(0, list(5, 1, 3))
	c, e := s.Dup(1)
	isNumber(t, "Dup", c, e, 2, api.OK)
	hasGroup(t, s, 2, 5, 1, 3)
	s.Free(1)
	hasGroup(t, s, 2, 5, 1, 3)
	c, e = s.Dup(0)
	isNumber(t, "Dup into the gap", c, e, 1, api.OK)
	for _, context := range list(3, -1, lowest, highest) {
		c, e = s.Dup(context)
		isNumber(t, "Dup of none", c, e, 0, api.ErrNone)
	}
	s = filled(t, 6, 64)
	c, e = s.Dup(63)
	isNumber(t, "Dup when full", c, e, 0, api.ErrFull)
	c, e = s.Dup(64)
	isNumber(t, "Dup of none when full", c, e, 0, api.ErrNone)
	s.Free(17)
	c, e = s.Dup(63)
	isNumber(t, "Dup into the last gap", c, e, 17, api.OK)
	hasContexts(t, s, upTo(64)...)
}

// P2.7: Make.
func TestMake(t *testing.T) {
	s := space(t, 6)
	c, e := s.Make(0, list(5, 1, 3))
	isNumber(t, "Make", c, e, 1, api.OK)
	hasGroup(t, s, 1, 5, 1, 3)
	c, e = s.Make(1, list(3, 5))
	isNumber(t, "Make from a part", c, e, 2, api.OK)
	hasGroup(t, s, 2, 3, 5)
	hasGroup(t, s, 1, 5, 1, 3)
	for _, x := range []struct {
		context int
		g       []int
		e       api.Errno
	}{
		{3, list(1), api.ErrNone},
		{3, list(-1), api.ErrNone},
		{-1, nil, api.ErrNone},
		{0, nil, api.ErrArg},
		{0, []int{}, api.ErrArg},
		{0, list(6), api.ErrRank},
		{0, list(0, 63), api.ErrRank},
		{1, list(0), api.ErrRank},
		{1, list(5, 1, 3, 2), api.ErrRank},
		{1, list(2, 5), api.ErrRank},
		{1, list(2, 2), api.ErrHave},
		{1, list(2, 5, 5), api.ErrHave},
		{1, list(5, 5, 2), api.ErrHave},
	} {
		c, e := s.Make(x.context, x.g)
		isNumber(t, fmt.Sprint("Make of ", x.context, x.g), c, e, 0, x.e)
	}
	for _, x := range badGroups() {
		c, e := s.Make(0, x.g)
		isNumber(t, "Make of a group that is not valid", c, e, 0, x.e)
		c, e = s.Make(9, x.g)
		isNumber(t, "Make of a group that is not valid from none", c, e, 0, api.ErrNone)
	}
	hasContexts(t, s, 0, 1, 2)
}

// P2.7: Make in a full space.
func TestMakeWhenFull(t *testing.T) {
	s := filled(t, 6, 64)
	for _, x := range []struct {
		context int
		g       []int
		e       api.Errno
	}{
		{0, list(1), api.ErrFull},
		{64, list(1), api.ErrNone},
		{0, nil, api.ErrArg},
		{0, list(6), api.ErrRank},
		{0, list(1, 1), api.ErrHave},
	} {
		c, e := s.Make(x.context, x.g)
		isNumber(t, fmt.Sprint("Make of ", x.context, x.g), c, e, 0, x.e)
	}
	s.Free(40)
	c, e := s.Make(0, list(1))
	isNumber(t, "Make", c, e, 40, api.OK)
	hasContexts(t, s, upTo(64)...)
}

// P2.7: Free.
func TestFree(t *testing.T) {
	s := filled(t, 3, 4)
	for _, x := range []struct {
		context int
		e       api.Errno
	}{{0, api.ErrState}, {4, api.ErrNone}, {-1, api.ErrNone}, {none, api.ErrNone}, {highest, api.ErrNone}, {2, api.OK}, {2, api.ErrNone}, {0, api.ErrState}} {
		if e := s.Free(x.context); e != x.e {
			t.Errorf("%d: %v, not %v", x.context, e, x.e)
		}
	}
	hasContexts(t, s, 0, 1, 3)
	for _, c := range list(1, 3) {
		if e := s.Free(c); e != api.OK {
			t.Error(c, e)
		}
	}
	hasContexts(t, s, 0)
	hasGroup(t, s, 0, 0, 1, 2)
}

// P2.8: ranks, not processes, say which color and which key belongs to a process.
func TestSplit(t *testing.T) {
	s := space(t, 8)
	s.Make(0, list(7, 2, 5, 0, 6))
	l, e := s.Split(1, list(4, highest, 4, none, highest), list(0, highest, 0, 0, lowest))
	isList(t, "Split", l, e, 2, 3, 2, none, 3)
	hasGroup(t, s, 2, 7, 5)
	hasGroup(t, s, 3, 6, 2)
	l, e = s.Split(1, list(3, 0, 2, 1, 0), list(0, 0, 0, 0, 0))
	isList(t, "Split by many colors", l, e, 7, 4, 6, 5, 4)
	hasGroup(t, s, 4, 2, 6)
	hasGroup(t, s, 5, 0)
	l, e = s.Split(1, times(5, 0), list(3, 2, 1, 2, 3))
	isList(t, "Split by keys alone", l, e, 8, 8, 8, 8, 8)
	hasGroup(t, s, 8, 5, 2, 0, 7, 6)
	s.Free(2)
	s.Free(6)
	l, e = s.Split(1, list(1, 2, 3, 2, 1), list(2, -2, 0, -1, 1))
	isList(t, "Split into gaps", l, e, 2, 6, 9, 6, 2)
	hasGroup(t, s, 2, 6, 7)
	hasGroup(t, s, 6, 2, 0)
	hasContexts(t, s, 0, 1, 2, 3, 4, 5, 6, 7, 8, 9)
	l, e = s.Split(1, times(5, none), times(5, 0))
	isList(t, "Split without colors", l, e, times(5, none)...)
	hasContexts(t, s, 0, 1, 2, 3, 4, 5, 6, 7, 8, 9)
}

// P2.8.
func TestErrorsOfSplit(t *testing.T) {
	s := space(t, 3)
	for _, x := range []struct {
		context      int
		colors, keys []int
		e            api.Errno
	}{
		{1, list(0, 0, 0), list(0, 0, 0), api.ErrNone},
		{1, list(-1), nil, api.ErrNone},
		{-1, list(0, 0, 0), list(0, 0, 0), api.ErrNone},
		{0, nil, nil, api.ErrShape},
		{0, list(0, 0), list(0, 0), api.ErrShape},
		{0, list(0, 0, 0, 0), list(0, 0, 0, 0), api.ErrShape},
		{0, list(0, 0, 0), list(0, 0), api.ErrShape},
		{0, list(0, 0), list(0, 0, 0), api.ErrShape},
		{0, list(0, 0, 0), list(0, 0, 0, 0), api.ErrShape},
		{0, list(-1, 0), list(0, 0, 0), api.ErrShape},
		{0, list(0, -1, 0), list(0, 0, 0), api.ErrArg},
		{0, list(0, -1, none), list(0, 0, 0), api.ErrArg},
		{0, list(none, none, -3), list(0, 0, 0), api.ErrArg},
		{0, list(lowest, 1, 2), list(0, 0, 0), api.ErrArg},
	} {
		l, e := s.Split(x.context, x.colors, x.keys)
		isError(t, fmt.Sprint("Split of ", x.context, x.colors, x.keys), l, e, x.e)
	}
	hasContexts(t, s, 0)
}

// P2.8: there is room for all new communicators, or none is made.
func TestSplitWhenFull(t *testing.T) {
	s := filled(t, 3, 62)
	l, e := s.Split(0, list(2, 0, 1), list(0, 0, 0))
	isError(t, "Split into 3", l, e, api.ErrFull)
	hasContexts(t, s, upTo(62)...)
	l, e = s.Split(0, list(2, 2, 1), list(0, 0, 0))
	isList(t, "Split into 2", l, e, 63, 63, 62)
	l, e = s.Split(0, list(0, none, none), list(0, 0, 0))
	isError(t, "Split into 1", l, e, api.ErrFull)
	l, e = s.Split(0, times(3, none), list(0, 0, 0))
	isList(t, "Split into none", l, e, times(3, none)...)
	l, e = s.Split(0, list(0, -1, 1), list(0, 0, 0))
	isError(t, "Split by a color that is not valid", l, e, api.ErrArg)
	l, e = s.Split(0, list(0, 1), list(0, 0, 0))
	isError(t, "Split with too few colors", l, e, api.ErrShape)
	s = space(t, 64)
	l, e = s.Split(0, upTo(64), make([]int, 64))
	isError(t, "Split into 64", l, e, api.ErrFull)
	l, e = s.Split(0, append(upTo(63), 7), make([]int, 64))
	isList(t, "Split into 63", l, e, append(upTo(64)[1:], 8)...)
	hasGroup(t, s, 8, 7, 63)
}

// model is a space as the chapter's words have it: the communicators in any order.
type model []member

type member struct {
	context int
	group   []int
}

func (m model) find(context int) int {
	return slices.IndexFunc(m, func(x member) bool { return x.context == context })
}

// add returns the model with one more communicator, and its context.
func (m model) add(g []int) (model, int) {
	context := 1
	for m.find(context) >= 0 {
		context++
	}
	return append(slices.Clone(m), member{context, g}), context
}

func (m model) dup(context int) (model, int, api.Errno) {
	i := m.find(context)
	if i < 0 {
		return m, 0, api.ErrNone
	}
	if len(m) == 64 {
		return m, 0, api.ErrFull
	}
	after, c := m.add(m[i].group)
	return after, c, api.OK
}

func (m model) make(context int, g []int) (model, int, api.Errno) {
	i := m.find(context)
	if i < 0 {
		return m, 0, api.ErrNone
	}
	for k, p := range g {
		if p < 0 || p > 63 {
			return m, 0, api.ErrRank
		}
		if slices.Contains(g[:k], p) {
			return m, 0, api.ErrHave
		}
	}
	if len(g) == 0 {
		return m, 0, api.ErrArg
	}
	for _, p := range g {
		if !slices.Contains(m[i].group, p) {
			return m, 0, api.ErrRank
		}
	}
	if len(m) == 64 {
		return m, 0, api.ErrFull
	}
	after, c := m.add(g)
	return after, c, api.OK
}

func (m model) free(context int) (model, api.Errno) {
	i := m.find(context)
	if i < 0 {
		return m, api.ErrNone
	}
	if context == 0 {
		return m, api.ErrState
	}
	return slices.Delete(slices.Clone(m), i, i+1), api.OK
}

func (m model) split(context int, colors, keys []int) (model, []int, api.Errno) {
	i := m.find(context)
	if i < 0 {
		return m, nil, api.ErrNone
	}
	g := m[i].group
	if len(colors) != len(g) || len(keys) != len(g) {
		return m, nil, api.ErrShape
	}
	if slices.ContainsFunc(colors, func(c int) bool { return c < 0 && c != none }) {
		return m, nil, api.ErrArg
	}
	after, out := m, times(len(g), none)
	for color := range 100 {
		ranks := slices.DeleteFunc(upTo(len(g)), func(r int) bool { return colors[r] != color })
		if len(ranks) == 0 {
			continue
		}
		for k := range ranks {
			for j := k; j > 0 && keys[ranks[j-1]] > keys[ranks[j]]; j-- {
				ranks[j-1], ranks[j] = ranks[j], ranks[j-1]
			}
		}
		var part []int
		for _, r := range ranks {
			part = append(part, g[r])
		}
		var c int
		after, c = after.add(part)
		for _, r := range ranks {
			out[r] = c
		}
	}
	if len(after) > 64 {
		return m, nil, api.ErrFull
	}
	return after, out, api.OK
}

// isModel fails unless a space has the communicators of a model.
func isModel(t *testing.T, s *comm.Space, m model) {
	t.Helper()
	var contexts []int
	for _, x := range m {
		contexts = append(contexts, x.context)
		if g, e := s.Group(x.context); e != api.OK || !slices.Equal(g, x.group) {
			t.Fatalf("%d: %v %v, not %v", x.context, g, e, x.group)
		}
	}
	slices.Sort(contexts)
	if l := s.Contexts(); !slices.Equal(l, contexts) {
		t.Fatalf("%v, not %v", l, contexts)
	}
}

// P2.6 to P2.8: a space is what the words say, after each of many operations.
func TestSpacesFollowTheModel(t *testing.T) {
	d := dice(15)
	for round := range 150 {
		n := 1 + d.roll(12)
		s, m := space(t, n), model{{0, upTo(n)}}
		for range 150 {
			context := d.roll(len(m)+2) - 1
			var e, f api.Errno
			var got, want []int
			switch op := d.roll(10); {
			case op < 2:
				got, want = list(0), list(0)
				got[0], e = s.Dup(context)
				m, want[0], f = m.dup(context)
			case op < 4:
				got, want = list(0), list(0)
				g := d.group(n)
				if d.roll(5) == 0 {
					g = d.ranks(d.roll(4), n)
				}
				got[0], e = s.Make(context, g)
				m, want[0], f = m.make(context, g)
			case op < 6:
				g, _ := s.Group(context)
				colors, keys := d.ranks(len(g), 1+d.roll(5)), d.ranks(len(g), 3)
				for i, c := range colors {
					if c < 0 && d.roll(8) > 0 {
						colors[i] = none
					}
				}
				if d.roll(10) == 0 {
					keys = append(keys, 1)
				}
				got, e = s.Split(context, colors, keys)
				m, want, f = m.split(context, colors, keys)
			case op < 7 || round%2 == 0:
				e = s.Free(context)
				m, f = m.free(context)
			default:
				s = s.Copy()
			}
			if e != f || !slices.Equal(got, want) {
				t.Fatalf("context %d: %v %v, not %v %v", context, got, e, want, f)
			}
			isModel(t, s, m)
		}
	}
}
