package coll_test

import (
	"slices"
	"testing"

	"armada/api"
	"armada/coll"
	"armada/sum"
)

// operation is an operation of reductions and a kind of values.
type operation struct{ op, kind int }

// reductions returns all operations of reductions with their kinds.
func reductions() []operation {
	var out []operation
	for op := 1; op <= api.OpMaxLoc; op++ {
		for kind := 1; kind <= api.VPair; kind++ {
			if sum.Check(op, kind) == api.OK {
				out = append(out, operation{op, kind})
			}
		}
	}
	return out
}

// randomValues returns values of a kind for the initial slots of a task.
func randomValues(d *dice, x coll.Task, kind int) [][]api.Value {
	out := make([][]api.Value, x.Procs)
	for rank := range out {
		for slot := range modelSlots(x) {
			if !isInitial(x, rank, slot) {
				continue
			}
			v := api.Value{Bits: uint64(d.roll(9)) - 4}
			switch {
			case kind == api.VReal:
				v.Bits = uint64(d.roll(2))<<63 | uint64(1023+d.roll(120)-60)<<52 | uint64(d.roll(1<<30))
				if d.often(30) {
					v.Bits = pick[uint64](d, 0, 1<<63, 0x7ff<<52, 0xfff<<52, 0x7ff<<52|7, 1)
				}
			case kind == api.VPair || kind == 0 && d.often(2):
				v.Place = int64(d.roll(5)) - 2
			case d.often(4):
				v.Bits = uint64(d.roll(1<<30))<<34 | uint64(d.roll(1<<30))
			}
			out[rank] = append(out[rank], v)
		}
	}
	return out
}

// declared returns the values that a task declares: values that are joined are reduced in some order.
func declared(d *dice, x coll.Task, o operation, in [][]api.Value) [][]api.Value {
	value := map[coll.Origin]api.Value{}
	for rank, row := range in {
		for slot := range modelSlots(x) {
			if isInitial(x, rank, slot) {
				value[coll.Origin{Rank: rank, Slot: slot}] = row[0]
				row = row[1:]
			}
		}
	}
	out := make([][]api.Value, x.Procs)
	for rank := range out {
		for slot := range modelSlots(x) {
			var l []api.Value
			for _, from := range wanted(x, rank, slot) {
				l = append(l, value[from])
			}
			switch {
			case len(l) == 0 || x.Op == coll.Barrier:
			case o.op == 0:
				out[rank] = append(out[rank], l[0])
			default:
				shuffle(d, l)
				v, _ := sum.Reduce(o.op, o.kind, l)
				out[rank] = append(out[rank], v)
			}
		}
	}
	return out
}

// runsAsDeclared fails unless a right schedule gives the declared result.
func runsAsDeclared(t *testing.T, d *dice, s coll.Schedule) {
	t.Helper()
	var o operation
	if joins(s.Task.Op) && s.Task.Op != coll.Barrier {
		o = pick(d, reductions()...)
	}
	in := randomValues(d, s.Task, o.kind)
	results(t, s, o.op, o.kind, in, declared(d, s.Task, o, in)...)
}

// P9.6: each schedule that is made is right.
func TestMadeIsRight(t *testing.T) {
	for _, x := range tasks(64, 16) {
		some := x.Procs <= 9 || x.Procs%9 == 5 || slices.Contains([]int{15, 16, 17, 31, 32, 33, 63, 64}, x.Procs)
		if !some || x.Parts > 2 && (x.Procs*x.Parts%7 != 1 || x.Root > 1) || x.Procs > 20 && (x.Parts+x.Root)%3 > 1 {
			continue
		}
		for _, s := range schedules(t, x) {
			if ok, e := coll.Right(s); !ok || e != api.OK {
				t.Fatalf("%d %+v: %v %v", s.Alg, x, ok, e)
			}
		}
	}
}

// P9.6: the largest schedules are right.
func TestLargestIsRight(t *testing.T) {
	d := dice(6)
	for op := 1; op < coll.Halo; op++ {
		for _, p := range []int{63, 64} {
			x := task(op, p, (p-1)*truth(hasRoot(op)), mostParts(op, p))
			for _, s := range schedules(t, x) {
				isSound(t, s, api.OK)
				if ok, e := coll.Right(s); !ok || e != api.OK {
					t.Fatalf("%d %+v: %v %v", s.Alg, x, ok, e)
				}
				runsAsDeclared(t, &d, s)
			}
		}
	}
}

// P9.7: the result is the declared one, and does not depend on the algorithm.
func TestResults(t *testing.T) {
	d := dice(7)
	all := tasks(12, 3)
	for range 3000 {
		x := all[d.roll(len(all))]
		var o operation
		if joins(x.Op) && x.Op != coll.Barrier {
			o = pick(&d, reductions()...)
		}
		in := randomValues(&d, x, o.kind)
		want := declared(&d, x, o, in)
		for _, s := range schedules(t, x) {
			results(t, s, o.op, o.kind, in, want...)
		}
	}
}

// renamed returns a right schedule of which all processes have other numbers.
func renamed(d *dice, s coll.Schedule) coll.Schedule {
	s = copied(s)
	p, n := s.Task.Procs, s.Task.Parts
	to := upTo(p)
	shuffle(d, to)
	slot := func(x int) int {
		if !isWide(s.Task.Op) {
			return x
		}
		block := x / n
		return (block/p*p+to[block%p])*n + x%n
	}
	if hasRoot(s.Task.Op) {
		s.Task.Root = to[s.Task.Root]
	}
	for i, x := range s.Steps {
		s.Steps[i] = coll.Step{Round: x.Round, From: to[x.From], To: to[x.To], Src: slot(x.Src), Dst: slot(x.Dst), Join: x.Join}
	}
	sortSteps(s.Steps)
	return s
}

// P9.7: other right schedules, with processes in any order, give the declared results, too.
func TestResultsOfRenamed(t *testing.T) {
	d := dice(8)
	all := slices.DeleteFunc(tasks(10, 3), func(x coll.Task) bool { return x.Op == coll.Scan || x.Op == coll.Halo })
	unordered := 0
	for range 4000 {
		l := schedules(t, all[d.roll(len(all))])
		s := renamed(&d, l[d.roll(len(l))])
		right, e := coll.Right(s)
		ordered, f := coll.Ordered(s)
		if !right || e != api.OK || f != api.OK {
			t.Fatalf("%+v: %v %v", s, right, e)
		}
		unordered += truth(!ordered)
		runsAsDeclared(t, &d, s)
	}
	if unordered < 500 {
		t.Error(unordered)
	}
}

// mostRounds returns how many rounds an algorithm has at most.
func mostRounds(alg, p, n int) int {
	q := doublings(p)
	switch {
	case alg == coll.Split:
		return q + p
	case alg == coll.Chain && p == 1:
		return 0
	case alg == coll.Chain:
		return n + p - 2
	case slices.Contains([]int{coll.Linear, coll.Ring, coll.Pairwise, coll.Exchange}, alg):
		return 2 * p
	}
	return 2*q + 2
}

// P9.8: how many rounds the schedules have.
func TestMostRounds(t *testing.T) {
	for _, x := range tasks(64, 3) {
		if x.Op == coll.Halo || x.Root > 1 || x.Procs > 34 && x.Procs < 60 {
			continue
		}
		for _, s := range schedules(t, x) {
			rounds, e := coll.Rounds(s)
			most, least := mostRounds(s.Alg, x.Procs, x.Parts), doublings(x.Procs)
			if e != api.OK || rounds > most || rounds < least || s.Alg == coll.Chain && rounds != most {
				t.Errorf("%d %+v: %d rounds, %v, not from %d to %d", s.Alg, x, rounds, e, least, most)
			}
		}
	}
}

// P9.8: no schedule of one round is right for 3 processes; there are only so many, if there is one slot.
func TestLeastRounds(t *testing.T) {
	for _, x := range []coll.Task{task(coll.Bcast, 3, 1, 1), task(coll.Reduce, 3, 1, 1), task(coll.Allreduce, 3, 0, 1), task(coll.Scan, 3, 0, 1), task(coll.Barrier, 3, 0, 1)} {
		sound := 0
		for i := range 1000 {
			s := coll.Schedule{Task: x}
			for from := range 3 {
				if i%10 > 0 {
					s.Steps = append(s.Steps, coll.Step{From: from, To: (i%10 - 1) / 3, Join: (i%10 - 1) % 3})
				}
				i /= 10
			}
			if coll.Sound(s) != api.OK {
				continue
			}
			sound++
			isRight(t, s, false, false)
		}
		if sound < 100 {
			t.Error(x, sound)
		}
	}
}

// P9.8: no right schedule has fewer rounds than 2 to their power reach all processes.
func TestLeastRoundsRandom(t *testing.T) {
	d := dice(9)
	all := slices.DeleteFunc(tasks(5, 1), func(x coll.Task) bool { return x.Op == coll.Halo || modelSlots(x) > 5 })
	right := 0
	for range 60000 {
		s := randomSteps(&d, all[d.roll(len(all))])
		if ok, e := coll.Right(s); !ok || e != api.OK {
			continue
		}
		right++
		if n, e := coll.Rounds(s); n < doublings(s.Task.Procs) || e != api.OK {
			t.Fatalf("%+v: %d %v", s, n, e)
		}
	}
	if right < 1000 {
		t.Error(right)
	}
}

// P9.9: no step can be left out.
func TestNoStepLeftOut(t *testing.T) {
	simple := []int{coll.Linear, coll.Tree, coll.Chain}
	for _, x := range tasks(64, 3) {
		if !hasRoot(x.Op) || x.Procs > 17 && (x.Procs < 63 || x.Root != 1 || x.Parts > 1) {
			continue
		}
		for _, s := range schedules(t, x) {
			if !slices.Contains(simple, s.Alg) {
				continue
			}
			for i := range s.Steps {
				less := copied(s)
				less.Steps = slices.Delete(less.Steps, i, i+1)
				if ok, e := coll.Right(less); ok || e != api.OK {
					t.Fatalf("%+v without the step %d: %v %v", s, i, ok, e)
				}
			}
		}
	}
}
