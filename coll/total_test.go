package coll_test

import (
	"slices"
	"sync"
	"testing"

	"armada/api"
	"armada/coll"
	"armada/comm"
)

// R3: nil lists are empty ones.
func TestNilLists(t *testing.T) {
	empty := comm.Grid{Sizes: []int{}, Wrap: []bool{}}
	for _, x := range tasks(3, 1) {
		if x.Op == coll.Halo {
			continue
		}
		y := x
		y.Grid = empty
		if e := coll.Check(y); e != api.OK {
			t.Error(y, e)
		}
		for _, alg := range algorithms(t, y) {
			s := made(t, y, alg)
			if !slices.Equal(s.Steps, made(t, x, alg).Steps) {
				t.Error(y, alg, s)
			}
			isRight(t, s, true, coll.Barrier != x.Op && isOrdered(t, s))
		}
	}
	y := halo(1, 1)
	y.Grid = empty
	if e := coll.Check(y); e != api.ErrShape {
		t.Error(e)
	}
	for _, steps := range [][]coll.Step{nil, {}} {
		s := coll.Schedule{Task: task(coll.Scan, 1, 0, 1), Steps: steps}
		isRight(t, s, true, true)
		results(t, s, api.OpSum, api.VInt, [][]api.Value{values(5)}, values(5))
		x := coll.Schedule{Task: task(coll.Scatter, 2, 0, 1), Steps: steps}
		isRight(t, x, false, false)
		for _, in := range [][][]api.Value{nil, {}} {
			runFails(t, s, api.OpSum, api.VInt, in, api.ErrShape)
		}
	}
	s := made(t, task(coll.Scatter, 2, 0, 1), coll.Tree)
	for _, none := range [][]api.Value{nil, {}} {
		results(t, s, 0, 0, [][]api.Value{values(1, 2), none}, values(1), values(2))
	}
}

// isOrdered returns what Ordered returns.
func isOrdered(t *testing.T, s coll.Schedule) bool {
	t.Helper()
	ok, e := coll.Ordered(s)
	if e != api.OK {
		t.Error(s, e)
	}
	return ok
}

// R4: a schedule shares no memory with its task.
func TestMakeSharesNothing(t *testing.T) {
	x := halo(1, -3, 2)
	s := made(t, x, coll.Ring)
	other := copied(s)
	x.Grid.Sizes[0], x.Grid.Wrap[0] = 9, false
	if !sameSchedule(s, other) {
		t.Error(s)
	}
	again := made(t, other.Task, coll.Ring)
	s.Task.Grid.Sizes[1], s.Task.Grid.Wrap[1] = 9, true
	for i := range s.Steps {
		s.Steps[i] = coll.Step{}
	}
	if !sameSchedule(again, other) || !sameSchedule(made(t, other.Task, coll.Ring), other) {
		t.Error(again)
	}
}

// R4: no two lists of a result share memory.
func TestTraceSharesNothing(t *testing.T) {
	for _, x := range []coll.Task{task(coll.Bcast, 4, 0, 2), task(coll.Allreduce, 5, 0, 2), task(coll.Alltoall, 3, 0, 1), halo(2, 3)} {
		for _, s := range schedules(t, x) {
			l, again := traced(t, s), traced(t, s)
			for rank := range l {
				for slot := range l[rank] {
					for i := range l[rank][slot] {
						l[rank][slot][i] = coll.Origin{Rank: -1}
					}
					_ = append(l[rank][slot], coll.Origin{Rank: -2})
					l[rank][slot] = again[rank][slot]
				}
			}
			for rank, slots := range traced(t, s) {
				if !slices.EqualFunc(slots, l[rank], func(a, b []coll.Origin) bool { return slices.Equal(a, b) }) {
					t.Error(s, rank, slots, l[rank])
				}
			}
		}
	}
}

// R4: the results of Trace are lists of their own: one can be overwritten without the others.
func TestTraceListsApart(t *testing.T) {
	s := made(t, task(coll.Bcast, 3, 0, 1), coll.Linear)
	l := traced(t, s)
	l[0][0][0] = coll.Origin{Rank: 9, Slot: 9}
	l[1][0] = append(l[1][0], coll.Origin{Rank: 8})
	if l[2][0][0] != (coll.Origin{}) || l[1][0][0] != (coll.Origin{}) {
		t.Error(l)
	}
}

// R4: no argument is changed, also not by calls with errors.
func TestArgumentsUnchanged(t *testing.T) {
	d := dice(10)
	all := tasks(4, 2)
	for range 3000 {
		x := all[d.roll(len(all))]
		l := schedules(t, x)
		s := l[d.roll(len(l))]
		if d.often(2) {
			s = changed(&d, s)
		}
		before := copied(s)
		in := numbered(x)
		coll.Sound(s)
		coll.Rounds(s)
		coll.Trace(s)
		coll.Right(s)
		coll.Ordered(s)
		out, _ := coll.Run(s, 0, 0, in)
		out2, _ := coll.Run(s, api.OpSum, api.VInt, in)
		for _, rows := range [][][]api.Value{out, out2} {
			for _, row := range rows {
				for i := range row {
					row[i] = api.Value{Bits: 77, Place: 77}
				}
			}
		}
		if !sameSchedule(s, before) || !sameRows(in, numbered(x)) {
			t.Fatal(s, before, in)
		}
	}
}

// R4: the slots of a process are new lists.
func TestSlotsShareNothing(t *testing.T) {
	for _, x := range tasks(3, 2) {
		for rank := range x.Procs {
			a, _ := coll.Initial(x, rank)
			b, _ := coll.Final(x, rank)
			c, _ := coll.Algorithms(x)
			first, last, algs := slices.Clone(a), slices.Clone(b), slices.Clone(c)
			for _, l := range [][]int{a, b, c} {
				for i := range l {
					l[i] = -9
				}
			}
			a, _ = coll.Initial(x, rank)
			b, _ = coll.Final(x, rank)
			c, _ = coll.Algorithms(x)
			if !slices.Equal(a, first) || !slices.Equal(b, last) || !slices.Equal(c, algs) {
				t.Error(x, rank, a, b, c)
			}
		}
	}
}

// oddNumbers returns numbers at the edges of all ranges.
func oddNumbers() []int {
	return []int{lowest, lowest + 1, -1 << 32, -2, -1, 0, 1, 2, 3, 4, 7, 15, 16, 17, 63, 64, 65, 127, 128, 255, 256, 257, 1 << 32, highest - 1, highest}
}

// P0: no call panics or goes on forever, whatever its arguments are; a call with an error returns nothing else.
func TestAllArguments(t *testing.T) {
	d := dice(11)
	odd := oddNumbers()
	all := append(tasks(4, 2), halo(1, 2, 2), halo(1, -3, 1, 2), coll.Task{})
	for i := range 40000 {
		x := all[d.roll(len(all))]
		s := copied(coll.Schedule{Task: x, Alg: pick(&d, odd...)})
		for _, f := range []*int{&s.Task.Op, &s.Task.Procs, &s.Task.Root, &s.Task.Parts} {
			if d.often(4 + i%30) {
				*f = pick(&d, odd...)
			}
		}
		for k := range s.Task.Grid.Sizes {
			if d.often(5) {
				s.Task.Grid.Sizes[k] = pick(&d, odd...)
			}
		}
		for range d.roll(5) {
			y := coll.Step{Round: d.roll(3), From: d.roll(3), To: d.roll(3), Src: d.roll(3), Dst: d.roll(3), Join: d.roll(3)}
			for _, f := range []*int{&y.Round, &y.From, &y.To, &y.Src, &y.Dst, &y.Join} {
				if d.often(8 + i%30) {
					*f = pick(&d, odd...)
				}
			}
			s.Steps = append(s.Steps, y)
		}
		if d.often(2) {
			sortSteps(s.Steps)
		}
		callAll(t, s, pick(&d, odd...), pick(&d, odd...))
	}
}

// callAll calls all functions, and fails unless those with an error return nothing else.
func callAll(t *testing.T, s coll.Schedule, rank, op int) {
	t.Helper()
	e := coll.Check(s.Task)
	n, f := coll.Slots(s.Task)
	algs, g := coll.Algorithms(s.Task)
	if e != f || e != g || (n > 0) != (e == api.OK) || (len(algs) > 0) != (e == api.OK) {
		t.Fatal(s.Task, e, n, f, algs, g)
	}
	first, f := coll.Initial(s.Task, rank)
	last, g := coll.Final(s.Task, rank)
	if f != g || e != api.OK && f != e || f != api.OK && len(first)+len(last) > 0 {
		t.Fatal(s.Task, rank, e, first, f, last, g)
	}
	m, f := coll.Make(s.Task, s.Alg)
	if e != api.OK && f != e || f != api.OK && !sameSchedule(m, coll.Schedule{}) {
		t.Fatal(s.Task, s.Alg, m, f)
	}
	sound := coll.Sound(s)
	rounds, f := coll.Rounds(s)
	right, g := coll.Right(s)
	ordered, h := coll.Ordered(s)
	if e != api.OK && sound != e || f != sound || g != sound || h != sound || sound != api.OK && (rounds > 0 || right || ordered) || ordered && !right {
		t.Fatal(s, sound, rounds, f, right, g, ordered, h)
	}
	l, f := coll.Trace(s)
	if sound != api.OK && f != sound || f != api.OK && (len(l) > 0 || right) || (len(l) > 0) != (f == api.OK) {
		t.Fatal(s, sound, l, f)
	}
	for _, kind := range []int{0, api.VInt, op} {
		out, f := coll.Run(s, op, kind, [][]api.Value{{{Bits: 1}}, {{Bits: 2}}})
		if sound != api.OK && f != sound || sound == api.OK && !right && f != api.ErrState || f != api.OK && len(out) > 0 {
			t.Fatal(s, op, kind, sound, right, out, f)
		}
	}
}

// P0: the largest schedules that are sound: all slots of all processes are written in all rounds.
func TestLargestSchedules(t *testing.T) {
	for _, x := range []coll.Task{task(coll.Allreduce, 64, 0, 16), task(coll.Alltoall, 64, 0, 4)} {
		s := coll.Schedule{Task: x}
		n := modelSlots(x)
		for round := range 40 {
			for rank := range x.Procs {
				for slot := range n {
					to, src := (rank+1)%x.Procs, slot
					if round == 0 && slot >= n/2 {
						src = slot - n/2
					}
					s.Steps = append(s.Steps, coll.Step{Round: round + 255 - 39, From: rank, To: to, Src: src, Dst: slot, Join: round % 6 / 5})
				}
			}
		}
		sortSteps(s.Steps)
		isSound(t, s, api.OK)
		if n, e := coll.Rounds(s); n != 256 || e != api.OK {
			t.Error(n, e)
		}
		l := traced(t, s)
		longest := 0
		for _, slots := range l {
			for _, list := range slots {
				longest = max(longest, len(list))
			}
		}
		if len(l) != 64 || longest != 64 {
			t.Error(len(l), longest)
		}
		if ok, e := coll.Right(s); ok || e != api.OK {
			t.Error(ok, e)
		}
	}
}

// Calls keep no state: many of them at a time have the same results.
func TestCallsAtTheSameTime(t *testing.T) {
	all := tasks(6, 2)
	var group sync.WaitGroup
	found := make([][]coll.Schedule, 6)
	for i := range found {
		group.Go(func() {
			for _, x := range all {
				l, _ := coll.Algorithms(x)
				for _, alg := range l {
					s, _ := coll.Make(x, alg)
					if ok, _ := coll.Right(s); ok {
						found[i] = append(found[i], s)
					}
				}
			}
		})
	}
	group.Wait()
	for _, l := range found[1:] {
		if !slices.EqualFunc(l, found[0], sameSchedule) {
			t.Error("another schedule")
		}
	}
}
