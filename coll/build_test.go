package coll_test

import (
	"math/bits"
	"slices"
	"testing"

	"armada/api"
	"armada/coll"
	"armada/comm"
)

const (
	highest = int(^uint(0) >> 1)
	lowest  = -highest - 1
)

// The operations, and how steps join.
const (
	operations = coll.Halo
	replaces   = 0
	inFront    = 1
	atBack     = 2
)

// task returns a task without a grid.
func task(op, procs, root, parts int) coll.Task {
	return coll.Task{Op: op, Procs: procs, Root: root, Parts: parts}
}

// halo returns a task for a grid; a negative size is that of a ring.
func halo(parts int, sizes ...int) coll.Task {
	t := coll.Task{Op: coll.Halo, Procs: 1, Parts: parts}
	for _, size := range sizes {
		t.Grid.Wrap = append(t.Grid.Wrap, size < 0)
		t.Grid.Sizes = append(t.Grid.Sizes, max(size, -size))
		t.Procs *= max(size, -size)
	}
	return t
}

// hasRoot reports whether an operation uses a root.
func hasRoot(op int) bool {
	return slices.Contains([]int{coll.Bcast, coll.Reduce, coll.Gather, coll.Scatter}, op)
}

// isWide reports whether an operation has more slots than parts.
func isWide(op int) bool {
	return slices.Contains([]int{coll.Gather, coll.Scatter, coll.Allgather, coll.Alltoall, coll.ReduceScatter, coll.Halo}, op)
}

// joins reports whether values are joined in an operation.
func joins(op int) bool {
	return slices.Contains([]int{coll.Reduce, coll.Allreduce, coll.Scan, coll.ReduceScatter, coll.Barrier}, op)
}

// mostParts returns how many parts an operation can have with some processes.
func mostParts(op, procs int) int {
	switch {
	case op == coll.Barrier:
		return 1
	case isWide(op):
		return min(coll.MaxParts, coll.MaxBlocks/procs)
	}
	return coll.MaxParts
}

// tasks returns tasks of all operations with up to some processes and parts; with many processes only some of the roots.
func tasks(procs, parts int) []coll.Task {
	var out []coll.Task
	for op := 1; op < coll.Halo; op++ {
		for p := 1; p <= procs; p++ {
			for n := 1; n <= min(parts, mostParts(op, p)); n++ {
				for _, root := range roots(op, p) {
					out = append(out, task(op, p, root, n))
				}
			}
		}
	}
	for _, t := range halos(parts) {
		if t.Procs <= procs {
			out = append(out, t)
		}
	}
	return out
}

// roots returns roots for some processes.
func roots(op, procs int) []int {
	switch {
	case !hasRoot(op):
		return []int{0}
	case procs <= 6:
		return upTo(procs)
	}
	return []int{0, 1, procs / 2, procs - 1}
}

// halos returns tasks for grids of all numbers of dimensions.
func halos(parts int) []coll.Task {
	var out []coll.Task
	for n := 1; n <= parts; n++ {
		for _, sizes := range [][]int{
			{1}, {-1}, {2}, {-2}, {3}, {-3}, {7}, {-8}, {64}, {-64},
			{1, 1}, {-1, 1}, {2, -2}, {-3, 2}, {3, 4}, {-3, -4}, {-1, 5}, {8, -8},
			{2, 2, 2}, {-3, 1, -2}, {-4, 4, -4}, {1, -5, 3},
			{2, -2, 1, -1}, {-2, 2, -3, 1}, {-4, -2, 2, 4},
		} {
			if t := halo(n, sizes...); t.Procs*n <= coll.MaxBlocks {
				out = append(out, t)
			}
		}
	}
	return out
}

// upTo returns the numbers from 0 to n - 1.
func upTo(n int) []int {
	l := make([]int, n)
	for i := range l {
		l[i] = i
	}
	return l
}

// doublings returns the least q for which 2^q is at least n.
func doublings(n int) int { return bits.Len(uint(n - 1)) }

// made returns a schedule that is made.
func made(t *testing.T, of coll.Task, alg int) coll.Schedule {
	t.Helper()
	s, e := coll.Make(of, alg)
	if e != api.OK {
		t.Fatalf("Make of %+v, %d: %v", of, alg, e)
	}
	return s
}

// algorithms returns the algorithms for a task.
func algorithms(t *testing.T, of coll.Task) []int {
	t.Helper()
	l, e := coll.Algorithms(of)
	if e != api.OK || len(l) == 0 {
		t.Fatalf("Algorithms of %+v: %v %v", of, l, e)
	}
	return l
}

// schedules returns all schedules that are made for a task.
func schedules(t *testing.T, of coll.Task) []coll.Schedule {
	t.Helper()
	var out []coll.Schedule
	for _, alg := range algorithms(t, of) {
		out = append(out, made(t, of, alg))
	}
	return out
}

// of returns a schedule with some steps: their round, from, to, src, dst and join.
func of(t coll.Task, steps ...[6]int) coll.Schedule {
	s := coll.Schedule{Task: t}
	for _, x := range steps {
		s.Steps = append(s.Steps, coll.Step{Round: x[0], From: x[1], To: x[2], Src: x[3], Dst: x[4], Join: x[5]})
	}
	return s
}

// isSteps fails unless a schedule has some steps.
func isSteps(t *testing.T, s coll.Schedule, want ...[6]int) {
	t.Helper()
	if w := of(s.Task, want...); !slices.Equal(s.Steps, w.Steps) {
		t.Errorf("%d %+v: the steps are %v, not %v", s.Alg, s.Task, s.Steps, w.Steps)
	}
}

// isSound fails unless Sound returns an error, and the others as well.
func isSound(t *testing.T, s coll.Schedule, want api.Errno) {
	t.Helper()
	if e := coll.Sound(s); e != want {
		t.Errorf("Sound of %+v: %v, not %v", s, e, want)
	}
	n, e := coll.Rounds(s)
	if e != want || e != api.OK && n != 0 {
		t.Errorf("Rounds of %+v: %v %v, not %v", s, n, e, want)
	}
	if want == api.OK {
		return
	}
	l, e := coll.Trace(s)
	right, f := coll.Right(s)
	ordered, g := coll.Ordered(s)
	out, h := coll.Run(s, 0, 0, nil)
	if e != want || f != want || g != want || h != want || len(l) > 0 || right || ordered || len(out) > 0 {
		t.Errorf("%+v: %v %v, %v %v, %v %v, %v %v, not %v", s, l, e, right, f, ordered, g, out, h, want)
	}
}

// isRight fails unless a schedule is right and ordered, or is not.
func isRight(t *testing.T, s coll.Schedule, right, ordered bool) {
	t.Helper()
	if ok, e := coll.Right(s); ok != right || e != api.OK {
		t.Errorf("Right of %+v: %v %v, not %v", s, ok, e, right)
	}
	if ok, e := coll.Ordered(s); ok != ordered || e != api.OK {
		t.Errorf("Ordered of %+v: %v %v, not %v", s, ok, e, ordered)
	}
}

// ranks returns the processes of origins.
func ranks(l []coll.Origin) []int {
	var out []int
	for _, o := range l {
		out = append(out, o.Rank)
	}
	return out
}

// traced returns what is in the slots at the end of a schedule that is possible.
func traced(t *testing.T, s coll.Schedule) [][][]coll.Origin {
	t.Helper()
	l, e := coll.Trace(s)
	if e != api.OK {
		t.Fatalf("Trace of %+v: %v", s, e)
	}
	return l
}

// values returns values without places.
func values(l ...int) []api.Value {
	var out []api.Value
	for _, x := range l {
		out = append(out, api.Value{Bits: uint64(x)})
	}
	return out
}

// results fails unless Run returns some values for each process.
func results(t *testing.T, s coll.Schedule, op, kind int, in [][]api.Value, want ...[]api.Value) {
	t.Helper()
	out, e := coll.Run(s, op, kind, in)
	if e != api.OK || !sameRows(out, want) {
		t.Errorf("Run of %d, %+v: %v %v, not %v", s.Alg, s.Task, out, e, want)
	}
}

// runFails fails unless Run returns an error.
func runFails(t *testing.T, s coll.Schedule, op, kind int, in [][]api.Value, want api.Errno) {
	t.Helper()
	if out, e := coll.Run(s, op, kind, in); e != want || len(out) > 0 {
		t.Errorf("Run of %d, %+v with %d, %d, %v: %v %v, not %v", s.Alg, s.Task, op, kind, in, out, e, want)
	}
}

// sameRows reports whether two lists of lists are the same. An empty list is a nil one.
func sameRows[T comparable](a, b [][]T) bool {
	return slices.EqualFunc(a, b, func(x, y []T) bool { return slices.Equal(x, y) })
}

// copied returns a copy of a schedule.
func copied(s coll.Schedule) coll.Schedule {
	s.Steps = slices.Clone(s.Steps)
	s.Task.Grid = comm.Grid{Sizes: slices.Clone(s.Task.Grid.Sizes), Wrap: slices.Clone(s.Task.Grid.Wrap)}
	return s
}

// sameSchedule reports whether two schedules are the same.
func sameSchedule(a, b coll.Schedule) bool {
	return a.Alg == b.Alg && slices.Equal(a.Steps, b.Steps) && sameTask(a.Task, b.Task)
}

// sameTask reports whether two tasks are the same.
func sameTask(a, b coll.Task) bool {
	return a.Op == b.Op && a.Procs == b.Procs && a.Root == b.Root && a.Parts == b.Parts &&
		slices.Equal(a.Grid.Sizes, b.Grid.Sizes) && slices.Equal(a.Grid.Wrap, b.Grid.Wrap)
}

// dice yields the same numbers in each run of the tests.
type dice uint64

// roll returns a number from 0 to n - 1.
func (d *dice) roll(n int) int {
	*d = *d*6364136223846793005 + 1442695040888963407
	return int(uint64(*d)>>33) % n
}

// often returns true once in n times.
func (d *dice) often(n int) bool { return d.roll(n) == 0 }

// pick returns one of some elements.
func pick[T any](d *dice, l ...T) T { return l[d.roll(len(l))] }

// shuffle brings a list into some order.
func shuffle[T any](d *dice, l []T) {
	for i := range l {
		j := d.roll(i + 1)
		l[i], l[j] = l[j], l[i]
	}
}
