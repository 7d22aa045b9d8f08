package coll_test

import (
	"slices"
	"testing"

	"armada/api"
	"armada/coll"
)

// isMade fails unless all algorithms of a task make the schedules of the model.
func isMade(t *testing.T, of coll.Task) {
	t.Helper()
	for _, s := range schedules(t, of) {
		if want := modelMake(of, s.Alg); !slices.Equal(s.Steps, want) || !sameTask(s.Task, of) {
			t.Fatalf("Make of %d, %+v: %v, not %v", s.Alg, of, s, want)
		}
	}
}

// P9.2: Algorithms returns the numbers of the table, ascending.
func TestAlgorithms(t *testing.T) {
	for _, of := range tasks(64, 1) {
		if l, want := algorithms(t, of), modelAlgorithms(of.Op, of.Procs); !slices.Equal(l, want) {
			t.Errorf("Algorithms of %+v: %v, not %v", of, l, want)
		}
	}
}

// P9.2: Make returns the steps of the table, sorted.
func TestMakeSmall(t *testing.T) {
	for _, of := range tasks(9, 3) {
		isMade(t, of)
	}
}

func TestMakeManyParts(t *testing.T) {
	for _, p := range []int{1, 2, 3, 5, 7, 8} {
		for op := 1; op < coll.Halo; op++ {
			isMade(t, task(op, p, (p-1)*2/3*truth(hasRoot(op)), mostParts(op, p)))
		}
	}
}

func TestMakeManyProcesses(t *testing.T) {
	for _, p := range []int{16, 23, 32, 64} {
		for op := 1; op < coll.Halo; op++ {
			if isWide(op) && p > 32 {
				continue
			}
			isMade(t, task(op, p, p*5/7*truth(hasRoot(op)), 1+p%2*truth(op != coll.Barrier)))
		}
	}
	for _, of := range []coll.Task{halo(1, 64), halo(2, -64), halo(3, -4, 4, -4), halo(1, 2, -2, -4, 4)} {
		isMade(t, of)
	}
}

func truth(b bool) int {
	if b {
		return 1
	}
	return 0
}

// P9.2: a schedule has its algorithm and its task.
func TestMakeKeepsTask(t *testing.T) {
	for _, of := range tasks(4, 2) {
		for _, alg := range algorithms(t, of) {
			if s := made(t, of, alg); s.Alg != alg || !sameTask(s.Task, of) {
				t.Error(of, alg, s)
			}
		}
	}
}

// P9.2: ErrNone if alg is none of the algorithms, after the error of Check.
func TestMakeErrors(t *testing.T) {
	for _, of := range tasks(9, 2) {
		l := algorithms(t, of)
		for _, alg := range []int{lowest, -1, 0, 1, 2, 3, 4, 5, 6, 7, 8, 9, 10, 11, 12, highest} {
			if slices.Contains(l, alg) {
				continue
			}
			if s, e := coll.Make(of, alg); e != api.ErrNone || !sameSchedule(s, coll.Schedule{}) {
				t.Error(of, alg, s, e)
			}
		}
	}
	for _, x := range wrongTasks() {
		for _, alg := range []int{0, coll.Linear, coll.Ring} {
			if s, e := coll.Make(x.task, alg); e != x.want || !sameSchedule(s, coll.Schedule{}) {
				t.Error(x, alg, s, e)
			}
		}
		if l, e := coll.Algorithms(x.task); e != x.want || len(l) > 0 {
			t.Error(x, l, e)
		}
	}
}

// P9.2: some schedules written out.
func TestMakeWritten(t *testing.T) {
	isSteps(t, made(t, task(coll.Bcast, 3, 2, 2), coll.Chain),
		[6]int{0, 2, 0, 0, 0, 0}, [6]int{1, 0, 1, 0, 0, 0}, [6]int{1, 2, 0, 1, 1, 0}, [6]int{2, 0, 1, 1, 1, 0})
	isSteps(t, made(t, task(coll.Reduce, 3, 2, 2), coll.Chain),
		[6]int{0, 1, 0, 0, 0, 2}, [6]int{1, 0, 2, 0, 0, 2}, [6]int{1, 1, 0, 1, 1, 2}, [6]int{2, 0, 2, 1, 1, 2})
	isSteps(t, made(t, task(coll.Bcast, 3, 1, 4), coll.Split),
		[6]int{0, 1, 0, 2, 2, 0}, [6]int{0, 1, 0, 3, 3, 0}, [6]int{1, 1, 2, 1, 1, 0},
		[6]int{2, 0, 1, 2, 2, 0}, [6]int{2, 0, 1, 3, 3, 0}, [6]int{2, 1, 2, 0, 0, 0}, [6]int{2, 2, 0, 1, 1, 0},
		[6]int{3, 0, 1, 1, 1, 0}, [6]int{3, 1, 2, 2, 2, 0}, [6]int{3, 1, 2, 3, 3, 0}, [6]int{3, 2, 0, 0, 0, 0})
	isSteps(t, made(t, task(coll.Allreduce, 3, 0, 1), coll.Doubling),
		[6]int{0, 1, 0, 0, 0, 2}, [6]int{1, 0, 2, 0, 0, 1}, [6]int{1, 2, 0, 0, 0, 2}, [6]int{2, 0, 1, 0, 0, 0})
	isSteps(t, made(t, task(coll.Allgather, 3, 0, 1), coll.Bruck),
		[6]int{0, 0, 2, 0, 0, 0}, [6]int{0, 1, 0, 1, 1, 0}, [6]int{0, 2, 1, 2, 2, 0},
		[6]int{1, 0, 1, 0, 0, 0}, [6]int{1, 1, 2, 1, 1, 0}, [6]int{1, 2, 0, 2, 2, 0})
	isSteps(t, made(t, task(coll.Gather, 3, 1, 1), coll.Tree), [6]int{0, 2, 1, 2, 2, 0}, [6]int{1, 0, 1, 0, 0, 0})
	isSteps(t, made(t, task(coll.Scatter, 4, 2, 1), coll.Tree),
		[6]int{0, 2, 0, 0, 0, 0}, [6]int{0, 2, 0, 1, 1, 0}, [6]int{1, 0, 1, 1, 1, 0}, [6]int{1, 2, 3, 3, 3, 0})
	isSteps(t, made(t, task(coll.ReduceScatter, 2, 0, 1), coll.Halving), [6]int{0, 0, 1, 1, 1, 1}, [6]int{0, 1, 0, 0, 0, 2})
	isSteps(t, made(t, halo(1, 1, -2), coll.Ring),
		[6]int{2, 0, 1, 0, 3, 0}, [6]int{2, 1, 0, 0, 3, 0}, [6]int{3, 0, 1, 0, 4, 0}, [6]int{3, 1, 0, 0, 4, 0})
	isSteps(t, made(t, halo(1, -1), coll.Ring), [6]int{0, 0, 0, 0, 1, 0}, [6]int{1, 0, 0, 0, 2, 0})
	isSteps(t, made(t, task(coll.Alltoall, 1, 0, 2), coll.Bruck),
		[6]int{0, 0, 0, 0, 2, 0}, [6]int{0, 0, 0, 1, 3, 0}, [6]int{1, 0, 0, 2, 2, 0}, [6]int{1, 0, 0, 3, 3, 0})
}
