package coll_test

import (
	"slices"
	"testing"

	"armada/api"
	"armada/coll"
)

// The rows of the chapter's table of examples.
func TestExampleSlots(t *testing.T) {
	x := task(coll.Gather, 3, 0, 2)
	if n, e := coll.Slots(x); n != 6 || e != api.OK {
		t.Error(n, e)
	}
	if l, e := coll.Initial(x, 1); !slices.Equal(l, []int{2, 3}) || e != api.OK {
		t.Error(l, e)
	}
	if l, e := coll.Final(x, 1); len(l) > 0 || e != api.OK {
		t.Error(l, e)
	}
	if l, e := coll.Final(x, 0); !slices.Equal(l, upTo(6)) || e != api.OK {
		t.Error(l, e)
	}
}

func TestExampleAlgorithms(t *testing.T) {
	if l := algorithms(t, task(coll.Allgather, 4, 0, 1)); !slices.Equal(l, []int{coll.Doubling, coll.Ring, coll.Bruck}) {
		t.Error(l)
	}
	if l := algorithms(t, task(coll.Allgather, 6, 0, 1)); !slices.Equal(l, []int{coll.Ring, coll.Bruck}) {
		t.Error(l)
	}
}

func TestExampleMake(t *testing.T) {
	isSteps(t, made(t, task(coll.Bcast, 3, 1, 1), coll.Tree), [6]int{0, 1, 2, 0, 0, 0}, [6]int{1, 1, 0, 0, 0, 0})
	isSteps(t, made(t, task(coll.Reduce, 3, 1, 1), coll.Linear), [6]int{0, 0, 1, 0, 0, 1}, [6]int{1, 2, 1, 0, 0, 2})
	scan := made(t, task(coll.Scan, 3, 0, 1), coll.Doubling)
	isSteps(t, scan, [6]int{0, 0, 1, 0, 0, 1}, [6]int{0, 1, 2, 0, 0, 1}, [6]int{1, 0, 2, 0, 0, 1})
	for rank, slots := range traced(t, scan) {
		if !slices.Equal(ranks(slots[0]), upTo(rank+1)) {
			t.Error(rank, slots)
		}
	}
	isSteps(t, made(t, task(coll.Alltoall, 2, 0, 1), coll.Bruck),
		[6]int{0, 0, 0, 0, 2, 0}, [6]int{0, 0, 0, 1, 3, 0}, [6]int{0, 1, 1, 0, 3, 0}, [6]int{0, 1, 1, 1, 2, 0},
		[6]int{1, 0, 1, 3, 3, 0}, [6]int{1, 1, 0, 3, 3, 0},
		[6]int{2, 0, 0, 2, 2, 0}, [6]int{2, 0, 0, 3, 3, 0}, [6]int{2, 1, 1, 2, 3, 0}, [6]int{2, 1, 1, 3, 2, 0})
}

func TestExampleRun(t *testing.T) {
	for _, alg := range []int{coll.Both, coll.Doubling, coll.Ring} {
		in := [][]api.Value{values(1), values(2), values(4)}
		results(t, made(t, task(coll.Allreduce, 3, 0, 1), alg), api.OpSum, api.VInt, in, values(7), values(7), values(7))
	}
}

func TestExampleRight(t *testing.T) {
	x := task(coll.Bcast, 2, 0, 1)
	s := made(t, x, coll.Linear)
	isSteps(t, s, [6]int{0, 0, 1, 0, 0, 0})
	isRight(t, of(x), false, false)
	isRight(t, of(x, [6]int{0, 0, 1, 0, 0, 1}), true, true)
	empty := of(x, [6]int{0, 1, 0, 0, 0, 0})
	isSound(t, empty, api.OK)
	if l, e := coll.Trace(empty); e != api.ErrState || len(l) > 0 {
		t.Error(l, e)
	}
	isSound(t, of(task(coll.Bcast, 3, 0, 1), [6]int{0, 0, 1, 0, 0, 0}, [6]int{0, 0, 2, 0, 0, 0}), api.ErrState)
}
