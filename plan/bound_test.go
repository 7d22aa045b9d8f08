package plan_test

import (
	"slices"
	"testing"

	"armada/coll"
	"armada/plan"
)

// P10.4: one process, or processes without neighbors, need nothing.
func TestBoundOfNothing(t *testing.T) {
	for op := 1; op < coll.Halo; op++ {
		for _, s := range nets() {
			_, hosts := size(s)
			isBound(t, machine(s, decimal, hosts-1), task(op, 1, 0, 1), [5]int{}, [2]int{}, in(0))
		}
	}
	isBound(t, machine(torus(1, 4), decimal, 2), halo(3, -1, 1), [5]int{}, [2]int{}, in(0))
}

// P10.4: rounds that are needed.
func TestBoundRounds(t *testing.T) {
	for _, x := range []struct {
		task coll.Task
		want int
	}{
		{task(coll.Bcast, 2, 1, 1), 1}, {task(coll.Bcast, 3, 0, 9), 2}, {task(coll.Bcast, 4, 0, 1), 2}, {task(coll.Bcast, 5, 4, 1), 3}, {task(coll.Bcast, 64, 0, 1), 6},
		{task(coll.Reduce, 8, 3, 1), 3}, {task(coll.Reduce, 9, 3, 1), 4}, {task(coll.Gather, 32, 3, 2), 5}, {task(coll.Gather, 33, 3, 2), 6}, {task(coll.Scatter, 16, 3, 2), 4}, {task(coll.Scatter, 17, 3, 2), 5},
		{task(coll.Scan, 2, 0, 1), 1}, {task(coll.Scan, 8, 0, 1), 3}, {task(coll.Scan, 9, 0, 1), 4}, {task(coll.Allgather, 7, 0, 1), 3}, {task(coll.Barrier, 64, 0, 1), 6}, {task(coll.Alltoall, 63, 0, 1), 6},
		{halo(1, 2), 1}, {halo(1, -2), 1}, {halo(1, 3), 2}, {halo(1, -3), 2}, {halo(1, -2, -2), 2}, {halo(1, 3, 3), 3}, {halo(1, -3, -3), 3}, {halo(1, -3, -3, -3), 3}, {halo(1, 2, 2, 2), 2}, {halo(1, 2, 2, 2, 2), 3}, {halo(1, 4, 4, 4), 3},
		{halo(1, -4, -4, 2, 2), 3}, {halo(1, 1, 1, 3), 2}, {halo(1, 1, 1), 0},
	} {
		hosts, _ := plan.Spread(torus(1, 8, 8), x.task.Procs)
		if l := bound(t, machine(torus(1, 8, 8), decimal, hosts...), x.task); l.Rounds != x.want {
			t.Errorf("%+v: %d rounds, not %d", x.task, l.Rounds, x.want)
		}
	}
}

// P10.4: hops that are needed by a pair, or by the rounds.
func TestBoundHops(t *testing.T) {
	far := machine(torus(1, 16), decimal, 0, 5, 10)
	isBound(t, far, task(coll.Allreduce, 3, 0, 2), [5]int{2, 10, 2, 2, 3022}, [2]int{0, 2}, in(0))
	isBound(t, far, task(coll.Bcast, 3, 1, 2), [5]int{2, 10, 2, 0, 3020}, [2]int{1, 0}, in(0))
	line := machine(torus(1, 16), decimal, 3, 4, 6, 12) // the distances are 1, 3 and 7; 2 and 8; 6
	isBound(t, line, task(coll.Scan, 4, 0, 1), [5]int{2, 8, 2, 2, 2822}, [2]int{1, 3}, in(1))
	isBound(t, line, task(coll.Reduce, 4, 0, 1), [5]int{2, 7, 2, 2, 2722}, [2]int{3, 0}, in(0))
	isBound(t, line, task(coll.Gather, 4, 2, 1), [5]int{2, 6, 3, 0, 2630}, [2]int{3, 2}, in(2))
	isBound(t, line, halo(1, 4), [5]int{2, 6, 2, 0, 2620}, [2]int{2, 3}, in(1))
	near := machine(torus(3, 3), decimal, 4, 3, 5, 0) // the first three are at one switch
	isBound(t, near, task(coll.Allreduce, 4, 0, 1), [5]int{2, 1, 2, 2, 2122}, [2]int{0, 3}, in(0))
	isBound(t, near, task(coll.Bcast, 4, 1, 1), [5]int{2, 1, 2, 0, 2120}, [2]int{1, 3}, in(0))
	one := machine(torus(3, 3), decimal, 4, 3, 5)
	isBound(t, one, task(coll.Reduce, 3, 2, 1), [5]int{2, 0, 2, 2, 2022}, [2]int{0, 2}, in(2))
	isBound(t, one, halo(1, 1, 3), [5]int{2, 0, 2, 0, 2020}, [2]int{0, 1}, in(1))
}

// P10.4: words that are needed by a witness, or by the rounds; of equal witnesses the first one.
func TestBoundWords(t *testing.T) {
	m := exampleMachine()
	isBound(t, m, task(coll.Scatter, 4, 2, 3), [5]int{2, 2, 9, 0, 40}, [2]int{2, 0}, out(2))
	isBound(t, m, task(coll.ReduceScatter, 4, 0, 2), [5]int{2, 2, 6, 6, 40}, [2]int{0, 2}, out(0))
	isBound(t, m, task(coll.Alltoall, 4, 0, 1), [5]int{2, 2, 3, 0, 28}, [2]int{0, 2}, in(0))
	isBound(t, m, task(coll.Barrier, 4, 0, 1), [5]int{2, 2, 2, 2, 28}, [2]int{0, 2}, in(0))
	pair := machine(torus(4, 2), decimal, upTo(8)...)
	first, second := []bool{true, false}, []bool{false, true}
	isBound(t, pair, task(coll.Alltoall, 8, 0, 3), [5]int{3, 1, 48, 0, 3580}, [2]int{0, 4}, cut(first))
	isBound(t, pair, task(coll.Allgather, 8, 0, 3), [5]int{3, 1, 21, 0, 3310}, [2]int{0, 4}, in(0))
	isBound(t, pair, task(coll.Gather, 8, 7, 3), [5]int{3, 1, 21, 0, 3310}, [2]int{0, 7}, in(7))
	few := machine(torus(4, 2), decimal, 4, 0, 1, 5, 2, 3) // the processes 0 and 3 are at the switch 1
	isBound(t, few, halo(2, -6), [5]int{2, 1, 8, 0, 2180}, [2]int{0, 1}, cut(second))
	many := machine(torus(4, 2), decimal, 0, 4, 5, 1, 6, 7) // the processes 0 and 3 are at the switch 0
	isBound(t, many, halo(2, -6), [5]int{2, 1, 8, 0, 2180}, [2]int{0, 1}, cut(first))
	sides := machine(tree(4, 2), decimal, 0, 1, 2, 3, 4, 5, 6, 7) // two of the four leaves, each with 4 links
	isBound(t, sides, task(coll.Alltoall, 8, 0, 4), [5]int{3, 2, 28, 0, 3480}, [2]int{0, 4}, in(0))
	chain := machine(torus(4, 4), decimal, 0, 1, 2, 3, 12, 13, 14, 15, 8, 9, 10, 11, 4, 5, 6, 7)
	isBound(t, chain, task(coll.Alltoall, 16, 0, 1), [5]int{4, 2, 32, 0, 4520}, [2]int{0, 8}, cut([]bool{true, true, false, false}))
}

// P10.4: joins that are needed.
func TestBoundJoins(t *testing.T) {
	for _, x := range []struct {
		task coll.Task
		want int
	}{
		{task(coll.Bcast, 8, 0, 4), 0}, {task(coll.Gather, 8, 0, 4), 0}, {task(coll.Scatter, 8, 0, 4), 0}, {task(coll.Allgather, 8, 0, 4), 0}, {task(coll.Alltoall, 8, 0, 4), 0}, {halo(4, 8), 0},
		{task(coll.Reduce, 2, 0, 1), 1}, {task(coll.Reduce, 2, 0, 2), 1}, {task(coll.Reduce, 2, 0, 3), 2}, {task(coll.Reduce, 5, 1, 1), 3}, {task(coll.Reduce, 5, 1, 4), 4}, {task(coll.Reduce, 5, 1, 16), 13},
		{task(coll.Allreduce, 8, 0, 1), 3}, {task(coll.Allreduce, 8, 0, 3), 3}, {task(coll.Allreduce, 8, 0, 4), 4}, {task(coll.Allreduce, 9, 0, 1), 4}, {task(coll.Scan, 16, 0, 5), 5}, {task(coll.Scan, 16, 0, 4), 4},
		{task(coll.ReduceScatter, 4, 0, 1), 3}, {task(coll.ReduceScatter, 4, 0, 3), 9}, {task(coll.ReduceScatter, 2, 0, 1), 1}, {task(coll.ReduceScatter, 16, 0, 16), 240}, {task(coll.Barrier, 2, 0, 1), 1}, {task(coll.Barrier, 3, 0, 1), 2}, {task(coll.Barrier, 64, 0, 1), 6},
	} {
		hosts, _ := plan.Spread(torus(1, 8, 8), x.task.Procs)
		if l := bound(t, machine(torus(1, 8, 8), decimal, hosts...), x.task); l.Joins != x.want {
			t.Errorf("%+v: %d joins, not %d", x.task, l.Joins, x.want)
		}
	}
}

// isBounded fails unless Bound gives what the model gives, which it returns.
func isBounded(t *testing.T, m plan.Machine, x coll.Task) plan.Low {
	t.Helper()
	want, got := ask(m, x).bound(), bound(t, m, x)
	if !sameLow(got, want) {
		t.Fatalf("Bound of %+v on %+v: %+v, not %+v", x, m, got, want)
	}
	return got
}

// P10.4: Bound, as the model has it.
func TestBoundRandom(t *testing.T) {
	d := dice(6)
	all := tasks(9, 3)
	kinds := map[int]int{}
	for range 2000 {
		x := all[d.roll(len(all))]
		kinds[isBounded(t, randomMachine(&d, x.Procs), x).Witness.Kind]++
	}
	if kinds[plan.In] < 500 || kinds[plan.Out] < 100 {
		t.Error(kinds)
	}
}

// P10.4: Bound for more processes, as the model has it.
func TestBoundOfMany(t *testing.T) {
	d := dice(20)
	for op := 1; op < coll.Halo; op++ {
		for range 8 {
			p := 10 + d.roll(13)
			x := task(op, p, d.roll(p)*truth(hasRoot(op)), 1+d.roll(min(3, mostParts(op, p))))
			isBounded(t, randomMachine(&d, p), x)
		}
	}
	for _, x := range []coll.Task{halo(1, -3, 2, 3), halo(2, -12), halo(1, 2, 2, 2, 2), halo(1, -4, -5), halo(1, 20)} {
		isBounded(t, randomMachine(&d, x.Procs), x)
	}
}

// P10.4: Bound on networks with few links, where sides need the most words, as the model has it.
func TestBoundOfSides(t *testing.T) {
	d := dice(7)
	cuts, complements := 0, 0
	for range 1500 {
		x := pick(&d, task(coll.Alltoall, 4+d.roll(5), 0, 1+d.roll(3)), halo(1+d.roll(3), -6), halo(1, -8), halo(2, -7), halo(1, -3, 2), halo(1, 2, 2, 2), halo(2, -2, 4))
		m := randomMachine(&d, x.Procs)
		m.Net = pick(&d, torus(4, 2), torus(4, 4), torus(3, 3), tree(3, 2), dragonfly(4, 1, 1), dragonfly(3, 2, 1))
		_, n := size(m.Net)
		hosts := upTo(n)
		shuffle(&d, hosts)
		m.Hosts = hosts[:min(x.Procs, n)]
		if len(m.Hosts) < x.Procs {
			continue
		}
		w := isBounded(t, m, x).Witness
		cuts += truth(w.Kind == plan.Cut)
		isStandard := slices.ContainsFunc(sidesOf(m), func(s []bool) bool { return slices.Equal(s, w.Side) })
		complements += truth(w.Kind == plan.Cut && !isStandard)
	}
	if cuts < 50 || complements < 10 {
		t.Error(cuts, complements)
	}
}
