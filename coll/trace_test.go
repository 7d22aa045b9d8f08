package coll_test

import (
	"slices"
	"testing"

	"armada/api"
	"armada/coll"
)

// origins returns origins: process, slot, process, slot and so on.
func origins(l ...int) []coll.Origin {
	var out []coll.Origin
	for i := 0; i < len(l); i += 2 {
		out = append(out, coll.Origin{Rank: l[i], Slot: l[i+1]})
	}
	return out
}

// has fails unless some origins are in a slot at the end.
func has(t *testing.T, s coll.Schedule, rank, slot int, want ...int) {
	t.Helper()
	if l := traced(t, s); !slices.Equal(l[rank][slot], origins(want...)) {
		t.Errorf("%+v: in the slot %d of %d is %v, not %v", s, slot, rank, l[rank][slot], want)
	}
}

// notPossible fails unless a schedule is sound, but a step of it is not possible.
func notPossible(t *testing.T, s coll.Schedule) {
	t.Helper()
	isSound(t, s, api.OK)
	if l, e := coll.Trace(s); e != api.ErrState || len(l) > 0 {
		t.Errorf("Trace of %+v: %v %v", s, l, e)
	}
	isRight(t, s, false, false)
	runFails(t, s, 0, 0, nil, api.ErrState)
	runFails(t, s, api.OpSum, api.VInt, nil, api.ErrState)
}

// P9.4: at first the initial slots have their own origins, and the others are empty.
func TestTraceOfNoSteps(t *testing.T) {
	for _, x := range tasks(5, 2) {
		l := traced(t, of(x))
		if len(l) != x.Procs {
			t.Fatal(x, l)
		}
		for rank, slots := range l {
			if len(slots) != modelSlots(x) {
				t.Fatal(x, rank, slots)
			}
			for slot, list := range slots {
				var want []coll.Origin
				if isInitial(x, rank, slot) {
					want = origins(rank, slot)
				}
				if !slices.Equal(list, want) {
					t.Fatal(x, rank, slot, list)
				}
			}
		}
	}
}

// P9.4: how values come into slots.
func TestTraceJoins(t *testing.T) {
	x := task(coll.Allreduce, 3, 0, 2)
	has(t, of(x, [6]int{0, 1, 2, 1, 0, 0}), 2, 0, 1, 1)
	has(t, of(x, [6]int{0, 1, 2, 1, 0, 1}), 2, 0, 1, 1, 2, 0)
	has(t, of(x, [6]int{0, 1, 2, 1, 0, 2}), 2, 0, 2, 0, 1, 1)
	has(t, of(x, [6]int{0, 1, 2, 1, 0, 2}), 1, 1, 1, 1)
	has(t, of(x, [6]int{0, 0, 1, 0, 0, 1}, [6]int{9, 1, 2, 0, 0, 2}), 2, 0, 2, 0, 0, 0, 1, 0)
	has(t, of(x, [6]int{0, 0, 1, 0, 0, 2}, [6]int{9, 1, 2, 0, 0, 1}), 2, 0, 1, 0, 0, 0, 2, 0)
	has(t, of(x, [6]int{0, 0, 1, 0, 0, 2}, [6]int{9, 1, 2, 0, 0, 0}), 2, 0, 1, 0, 0, 0)
	has(t, of(x, [6]int{0, 1, 1, 0, 0, 1}), 1, 0, 1, 0, 1, 0)
	has(t, of(x, [6]int{0, 1, 1, 0, 0, 0}), 1, 0, 1, 0)
	empty := task(coll.Bcast, 3, 1, 2)
	for join := range 3 {
		has(t, of(empty, [6]int{0, 1, 2, 1, 0, join}), 2, 0, 1, 1)
	}
}

// P9.4: all steps of a round take what is there before the round.
func TestTraceAtOnce(t *testing.T) {
	x := task(coll.Allreduce, 3, 0, 2)
	swap := of(x, [6]int{4, 0, 0, 0, 1, 0}, [6]int{4, 0, 0, 1, 0, 0})
	has(t, swap, 0, 0, 0, 1)
	has(t, swap, 0, 1, 0, 0)
	around := of(x, [6]int{4, 0, 1, 0, 0, 2}, [6]int{4, 1, 2, 0, 0, 2}, [6]int{4, 2, 0, 0, 0, 2})
	has(t, around, 0, 0, 0, 0, 2, 0)
	has(t, around, 1, 0, 1, 0, 0, 0)
	has(t, around, 2, 0, 2, 0, 1, 0)
	one := task(coll.Bcast, 3, 0, 1)
	has(t, of(one, [6]int{0, 0, 1, 0, 0, 0}, [6]int{1, 1, 2, 0, 0, 0}), 2, 0, 0, 0)
	notPossible(t, of(one, [6]int{0, 0, 1, 0, 0, 0}, [6]int{0, 1, 2, 0, 0, 0}))
}

// P9.4: a step from an empty slot is not possible.
func TestTraceEmpty(t *testing.T) {
	x := task(coll.Gather, 3, 1, 1)
	for join := range 3 {
		notPossible(t, of(x, [6]int{0, 0, 1, 1, 0, join}))
		notPossible(t, of(x, [6]int{0, 0, 0, 1, 0, join}))
		notPossible(t, of(x, [6]int{0, 2, 1, 2, 2, 0}, [6]int{1, 0, 1, 0, 0, 0}, [6]int{2, 2, 0, 1, 2, join}))
	}
}

// longLists returns a schedule after which a list of 2^k origins is in the slot 0, and one of 2^k - 1 in the slot 1, of a process alone.
func longLists(k int) coll.Schedule {
	s := of(task(coll.Allreduce, 1, 0, 2))
	add := func(src, dst, join int) {
		s.Steps = append(s.Steps, coll.Step{Round: len(s.Steps), Src: src, Dst: dst, Join: join})
	}
	for i := range k {
		if i > 0 {
			add(0, 1, 2)
		}
		add(0, 0, 1+i%2)
	}
	return s
}

// P9.4: a list has at most MaxOrigins origins.
func TestTraceMost(t *testing.T) {
	long := longLists(7)
	end := len(long.Steps)
	if l := traced(t, long); len(l[0][0]) != coll.MaxOrigins || len(l[0][1]) != coll.MaxOrigins-1 {
		t.Error(len(l[0][0]), len(l[0][1]))
	}
	with := func(steps ...[6]int) coll.Schedule {
		s := copied(long)
		s.Steps = append(s.Steps, of(s.Task, steps...).Steps...)
		return s
	}
	has := func(s coll.Schedule, slot, want int) {
		t.Helper()
		if l := traced(t, s); len(l[0][slot]) != want {
			t.Error(len(l[0][slot]), want)
		}
	}
	has(with([6]int{end, 0, 0, 0, 1, 0}), 1, 128)
	notPossible(t, with([6]int{end, 0, 0, 0, 1, 1}))
	notPossible(t, with([6]int{end, 0, 0, 0, 1, 2}))
	notPossible(t, with([6]int{end, 0, 0, 1, 0, 1}))
	notPossible(t, with([6]int{end, 0, 0, 1, 1, 2}))

	// A list of 127 and one of a single origin, which there is in another process.
	two := copied(long)
	two.Task = task(coll.Allreduce, 2, 0, 2)
	for join := 1; join <= 2; join++ {
		s := copied(two)
		s.Steps = append(s.Steps, coll.Step{Round: end, From: 1, To: 0, Src: 0, Dst: 1, Join: join})
		has(s, 1, 128)
		s = copied(two)
		s.Steps = append(s.Steps, coll.Step{Round: end, From: 1, To: 0, Src: 0, Dst: 0, Join: join})
		notPossible(t, s)
		s = copied(two)
		s.Steps = append(s.Steps, coll.Step{Round: end, From: 0, To: 1, Src: 1, Dst: 1, Join: join})
		if l := traced(t, s); len(l[1][1]) != 128 {
			t.Error(len(l[1][1]))
		}
		s.Steps = append(s.Steps, coll.Step{Round: end + 1, From: 0, To: 1, Src: 0, Dst: 1, Join: 0})
		if l := traced(t, s); len(l[1][1]) != 128 {
			t.Error(len(l[1][1]))
		}
	}
}

// P9.4: a schedule is right if the final slots have what they have to.
func TestRight(t *testing.T) {
	bcast := task(coll.Bcast, 3, 0, 2)
	isRight(t, of(bcast), false, false)
	isRight(t, of(task(coll.Bcast, 1, 0, 2)), true, true)
	right := of(bcast, [6]int{0, 0, 1, 0, 0, 0}, [6]int{0, 0, 1, 1, 1, 0}, [6]int{1, 0, 2, 0, 0, 0}, [6]int{1, 0, 2, 1, 1, 0})
	isRight(t, right, true, true)
	for i := range right.Steps {
		s := copied(right)
		s.Steps = slices.Delete(s.Steps, i, i+1)
		isRight(t, s, false, false)
		s = copied(right)
		s.Steps[i].Src = 1 - s.Steps[i].Src
		isRight(t, s, false, false)
	}
	twice := copied(right)
	twice.Steps = append(twice.Steps, coll.Step{Round: 2, From: 1, To: 2, Src: 0, Dst: 0, Join: 1})
	isRight(t, twice, false, false)
	twice.Steps[4].Join = 0
	isRight(t, twice, true, true)
	lost := copied(right)
	lost.Steps = append(lost.Steps, coll.Step{Round: 2, From: 0, To: 0, Src: 0, Dst: 1})
	isRight(t, lost, false, false)
}

// P9.4: values are joined in any order, each one once, of the processes that are named, in slots with the same number.
func TestRightJoined(t *testing.T) {
	x := task(coll.Reduce, 3, 1, 1)
	isRight(t, of(x, [6]int{0, 0, 1, 0, 0, 1}, [6]int{1, 2, 1, 0, 0, 2}), true, true)
	isRight(t, of(x, [6]int{0, 0, 1, 0, 0, 2}, [6]int{1, 2, 1, 0, 0, 2}), true, false)
	isRight(t, of(x, [6]int{0, 0, 1, 0, 0, 1}, [6]int{1, 2, 1, 0, 0, 1}), true, false)
	isRight(t, of(x, [6]int{0, 0, 1, 0, 0, 1}, [6]int{1, 2, 1, 0, 0, 0}), false, false)
	isRight(t, of(x, [6]int{0, 0, 1, 0, 0, 1}), false, false)
	isRight(t, of(x, [6]int{0, 0, 1, 0, 0, 1}, [6]int{1, 0, 1, 0, 0, 2}), false, false)
	isRight(t, of(x, [6]int{0, 0, 1, 0, 0, 1}, [6]int{1, 2, 1, 0, 0, 2}, [6]int{2, 2, 1, 0, 0, 2}), false, false)
	isRight(t, of(x, [6]int{0, 0, 2, 0, 0, 1}, [6]int{1, 2, 1, 0, 0, 0}), false, false)
	// What is in slots that are not final does not matter.
	isRight(t, of(x, [6]int{0, 0, 1, 0, 0, 1}, [6]int{1, 2, 1, 0, 0, 2}, [6]int{2, 1, 0, 0, 0, 2}), true, true)

	scan := task(coll.Scan, 2, 0, 2)
	isRight(t, of(scan, [6]int{0, 0, 1, 0, 0, 1}, [6]int{0, 0, 1, 1, 1, 1}), true, true)
	isRight(t, of(scan, [6]int{0, 0, 1, 0, 0, 2}, [6]int{0, 0, 1, 1, 1, 1}), true, false)
	isRight(t, of(scan, [6]int{0, 0, 1, 0, 0, 1}, [6]int{0, 0, 1, 1, 1, 2}), true, false)
	isRight(t, of(scan, [6]int{0, 0, 1, 0, 1, 1}, [6]int{0, 0, 1, 1, 0, 1}), false, false)
	isRight(t, of(scan, [6]int{0, 0, 1, 0, 0, 1}, [6]int{0, 0, 1, 1, 1, 1}, [6]int{0, 1, 0, 0, 0, 2}), false, false)

	scatter := task(coll.ReduceScatter, 2, 0, 1)
	isRight(t, of(scatter, [6]int{0, 0, 1, 1, 1, 1}, [6]int{0, 1, 0, 0, 0, 2}), true, true)
	isRight(t, of(scatter, [6]int{0, 0, 1, 1, 1, 1}, [6]int{0, 1, 0, 0, 0, 1}), true, false)
	isRight(t, of(scatter, [6]int{0, 0, 1, 0, 1, 1}, [6]int{0, 1, 0, 0, 0, 2}), false, false)
}

// P9.4: after a barrier each process has a value of each one at least once; it is never ordered.
func TestRightBarrier(t *testing.T) {
	x := task(coll.Barrier, 2, 0, 1)
	isRight(t, of(x), false, false)
	isRight(t, of(x, [6]int{0, 0, 1, 0, 0, 1}), false, false)
	isRight(t, of(x, [6]int{0, 0, 1, 0, 0, 1}, [6]int{1, 1, 0, 0, 0, 0}), true, false)
	isRight(t, of(x, [6]int{0, 0, 1, 0, 0, 1}, [6]int{1, 1, 0, 0, 0, 2}), true, false)
	isRight(t, of(x, [6]int{0, 0, 1, 0, 0, 1}, [6]int{0, 1, 0, 0, 0, 2}), true, false)
	isRight(t, of(x, [6]int{0, 0, 1, 0, 0, 0}, [6]int{0, 1, 0, 0, 0, 0}), false, false)
	isRight(t, of(task(coll.Barrier, 1, 0, 1)), true, false)
	isRight(t, of(task(coll.Barrier, 1, 0, 1), [6]int{0, 0, 0, 0, 0, 1}), true, false)
}

// P9.4: the other operations, with steps left out or led astray.
func TestRightOthers(t *testing.T) {
	gather := task(coll.Gather, 2, 1, 1)
	isRight(t, of(gather, [6]int{0, 0, 1, 0, 0, 0}), true, true)
	isRight(t, of(gather), false, false)
	isRight(t, of(gather, [6]int{0, 0, 1, 0, 1, 0}), false, false)
	scatter := task(coll.Scatter, 2, 1, 1)
	isRight(t, of(scatter, [6]int{0, 1, 0, 0, 0, 0}), true, true)
	isRight(t, of(scatter, [6]int{0, 1, 0, 1, 0, 0}), false, false)
	all := task(coll.Allgather, 2, 0, 1)
	isRight(t, of(all, [6]int{0, 0, 1, 0, 0, 0}, [6]int{0, 1, 0, 1, 1, 0}), true, true)
	isRight(t, of(all, [6]int{0, 0, 1, 0, 0, 0}), false, false)
	alltoall := task(coll.Alltoall, 2, 0, 1)
	right := [][6]int{{0, 0, 0, 0, 2, 0}, {0, 0, 1, 1, 2, 0}, {0, 1, 0, 0, 3, 0}, {0, 1, 1, 1, 3, 0}}
	isRight(t, of(alltoall, right...), true, true)
	for i := range right {
		isRight(t, of(alltoall, slices.Delete(slices.Clone(right), i, i+1)...), false, false)
	}
	ring := halo(1, -2)
	right = [][6]int{{0, 0, 1, 0, 1, 0}, {0, 1, 0, 0, 1, 0}, {1, 0, 1, 0, 2, 0}, {1, 1, 0, 0, 2, 0}}
	isRight(t, of(ring, right...), true, true)
	for i := range right {
		isRight(t, of(ring, slices.Delete(slices.Clone(right), i, i+1)...), false, false)
	}
	isRight(t, of(halo(1, 1)), true, true)
	isRight(t, of(halo(1, -1)), false, false)
}
