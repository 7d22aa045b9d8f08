package coll_test

import (
	"testing"

	"armada/api"
	"armada/coll"
	"armada/sum"
)

// numbered returns values for the initial slots of a task: 100 times the process, plus the number of the value.
func numbered(x coll.Task) [][]api.Value {
	out := make([][]api.Value, x.Procs)
	for rank := range out {
		l, _ := coll.Initial(x, rank)
		for i := range l {
			out[rank] = append(out[rank], api.Value{Bits: uint64(100*rank + i)})
		}
	}
	return out
}

// P9.5: values that are not joined come where they have to.
func TestRunMoves(t *testing.T) {
	for _, x := range []struct {
		task coll.Task
		want [][]api.Value
	}{
		{task(coll.Bcast, 3, 1, 2), [][]api.Value{values(100, 101), values(100, 101), values(100, 101)}},
		{task(coll.Gather, 3, 1, 2), [][]api.Value{nil, values(0, 1, 100, 101, 200, 201), nil}},
		{task(coll.Scatter, 3, 1, 2), [][]api.Value{values(100, 101), values(102, 103), values(104, 105)}},
		{task(coll.Allgather, 2, 0, 2), [][]api.Value{values(0, 1, 100, 101), values(0, 1, 100, 101)}},
		{task(coll.Alltoall, 2, 0, 2), [][]api.Value{values(0, 1, 100, 101), values(2, 3, 102, 103)}},
		{halo(2, 3), [][]api.Value{values(100, 101), values(0, 1, 200, 201), values(100, 101)}},
		{halo(1, -3), [][]api.Value{values(200, 100), values(0, 200), values(100, 0)}},
		{halo(1, -1), [][]api.Value{values(0, 0)}},
	} {
		for _, s := range schedules(t, x.task) {
			results(t, s, 0, 0, numbered(x.task), x.want...)
		}
	}
}

// P9.5: values that are joined are reduced.
func TestRunJoins(t *testing.T) {
	for _, x := range []struct {
		task coll.Task
		want [][]api.Value
	}{
		{task(coll.Reduce, 3, 1, 2), [][]api.Value{nil, values(300, 303), nil}},
		{task(coll.Allreduce, 3, 0, 2), [][]api.Value{values(300, 303), values(300, 303), values(300, 303)}},
		{task(coll.Scan, 3, 0, 2), [][]api.Value{values(0, 1), values(100, 102), values(300, 303)}},
		{task(coll.ReduceScatter, 3, 0, 2), [][]api.Value{values(300, 303), values(306, 309), values(312, 315)}},
	} {
		for _, s := range schedules(t, x.task) {
			results(t, s, api.OpSum, api.VInt, numbered(x.task), x.want...)
		}
	}
}

// P9.5: values of any kind that are not joined do not change; those of a barrier do not matter.
func TestRunKeepsValues(t *testing.T) {
	odd := api.Value{Bits: 1<<63 | 0x7ff<<52 | 5, Place: -9}
	s := made(t, task(coll.Bcast, 2, 1, 1), coll.Tree)
	results(t, s, 0, 0, [][]api.Value{nil, {odd}}, []api.Value{odd}, []api.Value{odd})
	for _, alg := range []int{coll.Both, coll.Ring} {
		results(t, made(t, task(coll.Barrier, 2, 0, 1), alg), 0, 0, [][]api.Value{{odd}, {odd}}, nil, nil)
	}
	results(t, of(task(coll.Barrier, 1, 0, 1)), 0, 0, [][]api.Value{{odd}}, nil)
}

// P9.5: a value that is joined alone is reduced as well: NaN becomes the NaN that is a result.
func TestRunOfOneProcess(t *testing.T) {
	const nan = 1<<63 | 0x7ff<<52 | 5
	one := [][]api.Value{{{Bits: nan}}}
	for op := 1; op <= api.OpMaxLoc; op++ {
		for kind := 1; kind <= api.VPair; kind++ {
			if sum.Check(op, kind) != api.OK {
				continue
			}
			want, _ := sum.Reduce(op, kind, one[0])
			for _, of := range []coll.Task{task(coll.Reduce, 1, 0, 1), task(coll.Allreduce, 1, 0, 1), task(coll.Scan, 1, 0, 1), task(coll.ReduceScatter, 1, 0, 1)} {
				for _, s := range schedules(t, of) {
					results(t, s, op, kind, one, []api.Value{want})
				}
			}
			if isNaN := kind == api.VReal; (want.Bits != nan) != isNaN {
				t.Error(op, kind, want)
			}
		}
	}
	first := [][]api.Value{{{Bits: nan}}, {{Bits: 0}}}
	results(t, made(t, task(coll.Scan, 2, 0, 1), coll.Linear), api.OpMin, api.VReal, first, []api.Value{{Bits: 0x7ff8 << 48}}, []api.Value{{Bits: 0x7ff8 << 48}})
}

// P9.5: the errors, in their order.
func TestRunErrors(t *testing.T) {
	const sumOf, ints, reals, pairs = api.OpSum, api.VInt, api.VReal, api.VPair
	x := task(coll.Allreduce, 2, 0, 2)
	s := made(t, x, coll.Both)
	good := [][]api.Value{values(1, 2), values(3, 4)}
	placed := [][]api.Value{values(1, 2), {{Bits: 3}, {Bits: 4, Place: 1}}}
	results(t, s, sumOf, ints, good, values(4, 6), values(4, 6))

	unsound := copied(s)
	unsound.Steps[0].Join = 3
	runFails(t, unsound, 99, 99, nil, api.ErrArg)
	unsound.Steps[0].Round = 256
	runFails(t, unsound, 99, 99, nil, api.ErrRange)
	runFails(t, of(x), 99, 99, nil, api.ErrState)
	runFails(t, of(x), sumOf, ints, good, api.ErrState)

	for _, op := range []int{lowest, -1, 0, 12, highest} {
		runFails(t, s, op, ints, nil, api.ErrArg)
	}
	for _, kind := range []int{lowest, -1, 0, 4, highest} {
		runFails(t, s, sumOf, kind, good, api.ErrArg)
	}
	runFails(t, s, 0, 0, good, api.ErrArg)
	runFails(t, s, api.OpProd, reals, nil, api.ErrType)
	runFails(t, s, sumOf, pairs, placed, api.ErrType)
	runFails(t, s, api.OpMinLoc, ints, good, api.ErrType)

	for _, in := range [][][]api.Value{
		nil, {}, {values(1, 2)}, {values(1, 2), values(3)}, {values(1, 2), values(3, 4, 5)}, {nil, nil}, {values(1, 2), nil},
		{values(1, 2), values(3, 4), nil}, {values(1, 2), values(3, 4), values(5, 6)},
		{placed[1], nil}, {placed[1], values(1, 2), nil}, {placed[1]},
	} {
		runFails(t, s, sumOf, ints, in, api.ErrShape)
	}
	for _, kind := range []int{ints, reals} {
		runFails(t, s, api.OpMin, kind, placed, api.ErrArg)
		runFails(t, s, api.OpMin, kind, [][]api.Value{placed[1], good[0]}, api.ErrArg)
	}
	out, e := coll.Run(s, api.OpMaxLoc, pairs, placed)
	if want := (api.Value{Bits: 4, Place: 1}); e != api.OK || out[0][1] != want || out[1][1] != want {
		t.Error(out, e)
	}
}

// P9.5: without anything that is joined, and for a barrier, there is no operation.
func TestRunErrorsWithoutOperation(t *testing.T) {
	for _, x := range tasks(4, 2) {
		if joins(x.Op) && x.Op != coll.Barrier {
			continue
		}
		in := numbered(x)
		for _, s := range schedules(t, x) {
			runFails(t, s, api.OpSum, api.VInt, in, api.ErrArg)
			runFails(t, s, api.OpSum, 0, in, api.ErrArg)
			runFails(t, s, 0, api.VInt, in, api.ErrArg)
			runFails(t, s, -1, 0, nil, api.ErrArg)
			runFails(t, s, api.OpProd, api.VReal, nil, api.ErrArg)
			runFails(t, s, 0, 0, nil, api.ErrShape)
			runFails(t, s, 0, 0, append(numbered(x), nil), api.ErrShape)
			more := numbered(x)
			more[x.Procs-1] = append(more[x.Procs-1], api.Value{})
			runFails(t, s, 0, 0, more, api.ErrShape)
			less := numbered(x)
			less[x.Root] = less[x.Root][1:]
			runFails(t, s, 0, 0, less, api.ErrShape)
		}
	}
}

// P9.5: also for roots alone: a process without initial slots has no values.
func TestRunShapeOfRoots(t *testing.T) {
	s := made(t, task(coll.Scatter, 2, 1, 1), coll.Linear)
	results(t, s, 0, 0, [][]api.Value{{}, values(5, 6)}, values(5), values(6))
	runFails(t, s, 0, 0, [][]api.Value{values(5, 6), nil}, api.ErrShape)
	runFails(t, s, 0, 0, [][]api.Value{values(1), values(5, 6)}, api.ErrShape)
}
