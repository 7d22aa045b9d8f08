package coll_test

import (
	"slices"
	"testing"

	"armada/api"
	"armada/coll"
	"armada/comm"
)

// wrong is a task that is not valid, and why.
type wrong struct {
	task coll.Task
	want api.Errno
}

// wrongTasks returns tasks that are not valid, each for one or several reasons.
func wrongTasks() []wrong {
	flat := comm.Grid{Sizes: []int{2}, Wrap: []bool{false}}
	withGrid := func(t coll.Task, sizes []int, wrap []bool) coll.Task {
		t.Grid = comm.Grid{Sizes: sizes, Wrap: wrap}
		return t
	}
	l := []wrong{
		{coll.Task{}, api.ErrArg},
		{task(0, 2, 0, 1), api.ErrArg},
		{task(-1, 2, 0, 1), api.ErrArg},
		{task(12, 2, 0, 1), api.ErrArg},
		{task(highest, 2, 0, 1), api.ErrArg},
		{task(lowest, 99, 99, 99), api.ErrArg},
		{coll.Task{Op: coll.Halo, Procs: 2, Root: 1, Parts: 1, Grid: flat}, api.ErrArg},
		{coll.Task{Op: coll.Halo, Procs: 99, Root: -1, Parts: 1, Grid: flat}, api.ErrArg},
		{withGrid(halo(1, 2), nil, nil), api.ErrShape},
		{withGrid(halo(1, 2), []int{2}, nil), api.ErrShape},
		{withGrid(halo(1, 2), nil, []bool{true}), api.ErrShape},
		{withGrid(halo(1, 2), []int{2}, []bool{true, true}), api.ErrShape},
		{withGrid(halo(1, 2), []int{2, 0}, []bool{true, true}), api.ErrShape},
		{withGrid(halo(1, 2), []int{-2, -1}, []bool{true, true}), api.ErrShape},
		{withGrid(halo(1, 2), []int{1, 2, 1, 1, 1}, make([]bool, 5)), api.ErrShape},
		{withGrid(halo(1, 2), []int{3}, []bool{true}), api.ErrShape},
		{withGrid(halo(1, 2), []int{1}, []bool{true}), api.ErrShape},
		{withGrid(halo(1, 64), []int{65}, []bool{true}), api.ErrShape},
		{withGrid(halo(1, 64), []int{8, 9}, make([]bool, 2)), api.ErrShape},
		{withGrid(halo(1, 64), []int{1 << 32, 1 << 32}, make([]bool, 2)), api.ErrShape},
		{withGrid(halo(1, 64), []int{highest}, []bool{false}), api.ErrShape},
		{withGrid(halo(5, 64), nil, nil), api.ErrMany},
		{withGrid(halo(17, 64), nil, nil), api.ErrRange},
		{halo(5, 64), api.ErrMany},
		{halo(16, 17), api.ErrMany},
		{halo(0, 2), api.ErrRange},
	}
	for op := 1; op <= operations; op++ {
		good := task(op, 2, 0, 1)
		if op == coll.Halo {
			good = halo(1, 2)
		} else {
			l = append(l,
				wrong{withGrid(good, []int{2}, nil), api.ErrArg},
				wrong{withGrid(good, nil, []bool{false}), api.ErrArg},
				wrong{withGrid(task(op, 99, 0, 1), []int{2}, []bool{true}), api.ErrArg},
				wrong{withGrid(task(op, 2, 0, 0), []int{0}, []bool{true}), api.ErrArg},
			)
		}
		for _, procs := range []int{lowest, -1, 0, 65, 1 << 32, highest} {
			x := good
			x.Procs = procs
			l = append(l, wrong{x, api.ErrRange})
		}
		for _, parts := range []int{lowest, -1, 0, 17, 1 << 32, highest} {
			x := good
			x.Parts = parts
			l = append(l, wrong{x, api.ErrRange})
		}
		for _, root := range []int{lowest, -1, 2, 64, highest} {
			x := good
			x.Root = root
			want := api.ErrArg
			if hasRoot(op) {
				want = api.ErrRange
			}
			l = append(l, wrong{x, want})
		}
		if !hasRoot(op) {
			x := good
			x.Root = 1
			l = append(l, wrong{x, api.ErrArg})
		}
		if isWide(op) && op != coll.Halo {
			l = append(l, wrong{task(op, 64, 0, 5), api.ErrMany}, wrong{task(op, 17, 0, 16), api.ErrMany}, wrong{task(op, 64, 0, 17), api.ErrRange})
		}
	}
	return append(l, wrong{task(coll.Barrier, 2, 0, 2), api.ErrRange}, wrong{task(coll.Barrier, 2, 0, 16), api.ErrRange})
}

// The numbers of the operations and algorithms, and the limits, are those of the chapter.
func TestNumbers(t *testing.T) {
	for i, op := range []int{coll.Bcast, coll.Reduce, coll.Allreduce, coll.Scan, coll.Gather, coll.Scatter, coll.Allgather, coll.Alltoall, coll.ReduceScatter, coll.Barrier, coll.Halo} {
		if op != i+1 {
			t.Error(op, i)
		}
	}
	for i, alg := range []int{coll.Linear, coll.Tree, coll.Chain, coll.Split, coll.Both, coll.Doubling, coll.Ring, coll.Bruck, coll.Pairwise, coll.Exchange, coll.Halving} {
		if alg != i+1 {
			t.Error(alg, i)
		}
	}
	if l := []int{coll.MaxParts, coll.MaxBlocks, coll.MaxRounds, coll.MaxOrigins}; !slices.Equal(l, []int{16, 256, 256, 128}) {
		t.Error(l)
	}
}

// P9.1: the errors of Check, which the other functions return as well.
func TestCheckErrors(t *testing.T) {
	for _, x := range wrongTasks() {
		if e := coll.Check(x.task); e != x.want {
			t.Errorf("Check of %+v: %v, not %v", x.task, e, x.want)
		}
		if n, e := coll.Slots(x.task); e != x.want || n != 0 {
			t.Errorf("Slots of %+v: %v %v, not %v", x.task, n, e, x.want)
		}
		for _, rank := range []int{-1, 0, 1, 99} {
			first, e := coll.Initial(x.task, rank)
			last, f := coll.Final(x.task, rank)
			if e != x.want || f != x.want || len(first)+len(last) > 0 {
				t.Errorf("Initial, Final of %+v, %d: %v %v, %v %v, not %v", x.task, rank, first, e, last, f, x.want)
			}
		}
		isSound(t, coll.Schedule{Task: x.task, Alg: coll.Ring, Steps: []coll.Step{{Round: -1}}}, x.want)
	}
}

// P9.1: valid tasks, up to the largest ones.
func TestCheckValid(t *testing.T) {
	for _, x := range append(tasks(64, 16), task(coll.Barrier, 64, 0, 1), halo(16, 16), halo(4, -8, 8)) {
		if e := coll.Check(x); e != api.OK {
			t.Errorf("Check of %+v: %v", x, e)
		}
	}
	for op := 1; op <= operations; op++ {
		most := mostParts(op, 64)
		if want := map[bool]int{false: 16, true: 4}[isWide(op)]; op != coll.Barrier && most != want {
			t.Error(op, most)
		}
	}
}

// P9.1: Check of tasks at random is that of the model.
func TestCheckRandom(t *testing.T) {
	d := dice(1)
	odd := []int{lowest, -1, 0, 1, 2, 3, 4, 6, 8, 12, 15, 16, 17, 32, 63, 64, 65, 1 << 32, highest}
	valid := 0
	for range 200000 {
		x := coll.Task{Op: 1 + d.roll(operations), Procs: 1 + d.roll(64), Parts: 1 + d.roll(5)}
		if x.Op == coll.Halo {
			x = halo(x.Parts, pick(&d, 1, 2, -3, 4, 6), pick(&d, 1, -2, 3, -8))
		}
		for _, f := range []*int{&x.Op, &x.Procs, &x.Parts, &x.Root} {
			if d.often(7) {
				*f = pick(&d, odd...)
			}
		}
		for range d.roll(4) / 3 * d.roll(4) {
			if d.often(2) {
				x.Grid.Sizes = append(x.Grid.Sizes, pick(&d, odd...))
			}
			if d.often(2) {
				x.Grid.Wrap = append(x.Grid.Wrap, d.often(2))
			}
		}
		want := modelCheck(x)
		if e := coll.Check(x); e != want {
			t.Fatalf("Check of %+v: %v, not %v", x, e, want)
		}
		if want == api.OK {
			valid++
		}
	}
	if valid < 20000 {
		t.Error(valid)
	}
}

// P9.1: slots, initial slots and final slots.
func TestSlots(t *testing.T) {
	for _, x := range tasks(64, 4) {
		if x.Procs > 17 && x.Procs < 62 {
			continue
		}
		n, e := coll.Slots(x)
		if n != modelSlots(x) || e != api.OK {
			t.Fatalf("Slots of %+v: %v %v", x, n, e)
		}
		for rank := range x.Procs {
			var first, last []int
			for slot := range n {
				if isInitial(x, rank, slot) {
					first = append(first, slot)
				}
				if len(wanted(x, rank, slot)) > 0 {
					last = append(last, slot)
				}
			}
			l, e := coll.Initial(x, rank)
			m, f := coll.Final(x, rank)
			if !slices.Equal(l, first) || !slices.Equal(m, last) || e != api.OK || f != api.OK {
				t.Fatalf("Initial, Final of %+v, %d: %v %v, %v %v, not %v, %v", x, rank, l, e, m, f, first, last)
			}
		}
	}
}

// P9.1: some slots written out.
func TestSlotsWritten(t *testing.T) {
	for _, x := range []struct {
		task        coll.Task
		rank, slots int
		first, last []int
	}{
		{task(coll.Bcast, 3, 1, 2), 1, 2, []int{0, 1}, []int{0, 1}},
		{task(coll.Bcast, 3, 1, 2), 0, 2, nil, []int{0, 1}},
		{task(coll.Reduce, 3, 1, 2), 0, 2, []int{0, 1}, nil},
		{task(coll.Reduce, 3, 1, 2), 1, 2, []int{0, 1}, []int{0, 1}},
		{task(coll.Allreduce, 3, 0, 2), 2, 2, []int{0, 1}, []int{0, 1}},
		{task(coll.Scan, 3, 0, 2), 2, 2, []int{0, 1}, []int{0, 1}},
		{task(coll.Gather, 3, 1, 2), 2, 6, []int{4, 5}, nil},
		{task(coll.Gather, 3, 1, 2), 1, 6, []int{2, 3}, []int{0, 1, 2, 3, 4, 5}},
		{task(coll.Scatter, 3, 1, 2), 2, 6, nil, []int{4, 5}},
		{task(coll.Scatter, 3, 1, 2), 1, 6, []int{0, 1, 2, 3, 4, 5}, []int{2, 3}},
		{task(coll.Allgather, 2, 0, 2), 1, 4, []int{2, 3}, []int{0, 1, 2, 3}},
		{task(coll.Alltoall, 2, 0, 2), 1, 8, []int{0, 1, 2, 3}, []int{4, 5, 6, 7}},
		{task(coll.ReduceScatter, 2, 0, 2), 1, 4, []int{0, 1, 2, 3}, []int{2, 3}},
		{task(coll.Barrier, 2, 0, 1), 1, 1, []int{0}, []int{0}},
		{halo(2, 3), 0, 6, []int{0, 1}, []int{4, 5}},
		{halo(2, 3), 1, 6, []int{0, 1}, []int{2, 3, 4, 5}},
		{halo(2, 3), 2, 6, []int{0, 1}, []int{2, 3}},
		{halo(1, 2, -1), 0, 5, []int{0}, []int{2, 3, 4}},
		{halo(1, 1), 0, 3, []int{0}, nil},
	} {
		n, e := coll.Slots(x.task)
		first, f := coll.Initial(x.task, x.rank)
		last, g := coll.Final(x.task, x.rank)
		if n != x.slots || !slices.Equal(first, x.first) || !slices.Equal(last, x.last) || e != api.OK || f != api.OK || g != api.OK {
			t.Errorf("%+v: %v %v, %v %v, %v %v", x, n, e, first, f, last, g)
		}
	}
}

// P9.1: ErrRank if there is no such process.
func TestSlotsOfNoProcess(t *testing.T) {
	for _, x := range tasks(4, 1) {
		for _, rank := range []int{lowest, -1, x.Procs, 64, highest} {
			first, e := coll.Initial(x, rank)
			last, f := coll.Final(x, rank)
			if e != api.ErrRank || f != api.ErrRank || len(first)+len(last) > 0 {
				t.Error(x, rank, first, e, last, f)
			}
		}
	}
}
