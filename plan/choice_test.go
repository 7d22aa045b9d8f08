package plan_test

import (
	"slices"
	"testing"

	"armada/api"
	"armada/coll"
	"armada/plan"
)

// P10.4: the totals of all algorithms, in their order.
func TestCosts(t *testing.T) {
	m := exampleMachine()
	for _, x := range []struct {
		task coll.Task
		want [][5]int
	}{
		{task(coll.Bcast, 4, 0, 2), [][5]int{{3, 4, 6, 0, 46}, {2, 3, 6, 0, 35}, {4, 4, 4, 0, 52}, {5, 6, 5, 0, 66}}},
		{task(coll.Allreduce, 4, 0, 1), [][5]int{{4, 6, 5, 2, 58}, {2, 3, 3, 2, 31}, {6, 6, 6, 3, 81}}},
		{task(coll.Barrier, 4, 0, 1), [][5]int{{4, 6, 5, 2, 58}, {2, 3, 3, 2, 31}}},
		{task(coll.Scan, 4, 0, 1), [][5]int{{3, 3, 3, 3, 42}, {2, 3, 3, 2, 31}}},
		{halo(1, -4), [][5]int{{2, 2, 2, 0, 26}}},
		{task(coll.Gather, 1, 0, 5), [][5]int{{}, {}}},
	} {
		var want []plan.Totals
		for _, l := range x.want {
			want = append(want, totals(l))
		}
		on := m
		on.Hosts = m.Hosts[:x.task.Procs]
		if got, e := plan.Costs(on, x.task); !slices.Equal(got, want) || e != api.OK {
			t.Errorf("Costs of %+v: %v %v, not %v", x.task, got, e, want)
		}
	}
}

// P10.4: Costs and Choose at random: the first one of the cheapest algorithms, with its totals and the bound.
func TestChooseRandom(t *testing.T) {
	d := dice(8)
	all := tasks(9, 3)
	equal, algs := 0, map[int]int{}
	for range 1500 {
		x := all[d.roll(len(all))]
		m := randomMachine(&d, x.Procs)
		var costs []plan.Totals
		best, cheap := 0, 0
		made := schedules(t, x)
		for i, s := range made {
			costs = append(costs, measured(t, m, s))
			if costs[i].Cost < costs[best].Cost {
				best = i
			}
		}
		for _, c := range costs {
			cheap += truth(c.Cost == costs[best].Cost)
		}
		equal += truth(cheap > 1)
		algs[made[best].Alg]++
		if l, e := plan.Costs(m, x); !slices.Equal(l, costs) || e != api.OK {
			t.Fatalf("Costs of %+v on %+v: %v %v, not %v", x, m, l, e, costs)
		}
		want := plan.Cert{Task: x, Alg: made[best].Alg, Totals: costs[best], Low: bound(t, m, x)}
		if c := chosen(t, m, x); !sameCert(c, want) {
			t.Fatalf("Choose of %+v on %+v: %+v, not %+v", x, m, c, want)
		}
	}
	if equal < 200 || len(algs) < 10 {
		t.Error(equal, algs)
	}
}

// P10.4: if all costs are equal, the first algorithm is chosen.
func TestChooseForNothing(t *testing.T) {
	for _, x := range tasks(5, 1) {
		m := machine(torus(2, 3), [4]int{}, upTo(x.Procs)...)
		if c := chosen(t, m, x); c.Alg != schedules(t, x)[0].Alg || c.Totals.Cost != 0 || c.Low.Cost != 0 {
			t.Error(c)
		}
	}
}

// changedLow returns a bound of which something is changed.
func changedLow(d *dice, m plan.Machine, procs int, l plan.Low) plan.Low {
	l.Witness.Side = slices.Clone(l.Witness.Side)
	for range 1 + d.roll(3) {
		part := pick(d, &l.Rounds, &l.Hops, &l.Words, &l.Joins)
		switch d.roll(7) {
		case 0, 1:
			*part += d.roll(3) - 1
		case 2:
			*part = d.roll(*part + 2)
		case 3:
			*part = pick(d, -1, 0, 1, 100, highest, lowest)
		case 4:
			l.Pair = [2]int{d.roll(procs), d.roll(procs)}
		case 5:
			l.Pair[d.roll(2)] = pick(d, -1, procs, 64, highest, lowest)
		case 6:
			l.Witness = randomWitness(d, m, procs)
		}
	}
	if !d.often(8) {
		l = priced(m, l)
	}
	return l
}

// P10.5: certificates with other bounds, as the model has it.
func TestVerifyRandom(t *testing.T) {
	d := dice(9)
	all := tasks(8, 2)
	kept, broken := 0, 0
	for range 500 {
		x := all[d.roll(len(all))]
		m := randomMachine(&d, x.Procs)
		q, c := ask(m, x), chosen(t, m, x)
		verifies(t, m, c, api.OK)
		for range 15 {
			other := c
			other.Low = changedLow(&d, m, x.Procs, c.Low)
			want := api.ErrBound
			if q.keeps(other.Low) {
				want = api.OK
				kept++
			} else {
				broken++
			}
			verifies(t, m, other, want)
		}
		if t.Failed() {
			return
		}
	}
	if kept < 1000 || broken < 1000 {
		t.Error(kept, broken)
	}
}

// P10.5: the totals are those of the algorithm of the certificate.
func TestVerifyTotals(t *testing.T) {
	m := exampleMachine()
	for _, x := range tasks(4, 2) {
		if x.Procs != 4 {
			continue
		}
		l := schedules(t, x)
		for _, s := range l {
			c := plan.Cert{Task: x, Alg: s.Alg, Totals: measured(t, m, s), Low: bound(t, m, x)}
			verifies(t, m, c, api.OK) // not only for the cheapest one
			for i := range 5 {
				for _, by := range []int{-1, 1, highest, lowest} {
					other := c
					*[]*int{&other.Totals.Rounds, &other.Totals.Hops, &other.Totals.Words, &other.Totals.Joins, &other.Totals.Cost}[i] += by
					verifies(t, m, other, api.ErrBound)
				}
			}
			for _, alg := range []int{lowest, -1, 0, 12, highest} {
				other := c
				other.Alg = alg
				verifies(t, m, other, api.ErrBound)
			}
			for _, s := range l {
				other := c
				other.Alg = s.Alg
				want := api.ErrBound
				if measured(t, m, s) == c.Totals {
					want = api.OK
				}
				verifies(t, m, other, want)
			}
		}
	}
	odd := machine(torus(1, 4), [4]int{10, 1, 2, 1}, 0, 1, 2)
	c := chosen(t, odd, task(coll.Allgather, 3, 0, 1))
	c.Alg = coll.Doubling // not for 3 processes
	verifies(t, odd, c, api.ErrBound)
	verifies(t, odd, plan.Cert{Task: task(coll.Allgather, 3, 0, 1), Alg: coll.Doubling}, api.ErrBound)
}

// P10.5: what justifies a bound.
func TestVerifyLow(t *testing.T) {
	m := machine(torus(1, 16), decimal, 0, 5, 10) // the distances are 5, 6 and 5
	c := chosen(t, m, task(coll.Bcast, 3, 1, 4))
	if c.Low.Pair != [2]int{1, 0} || lowTotals(c.Low) != totals([5]int{2, 10, 4, 0, 3040}) {
		t.Fatal(c)
	}
	for _, x := range []struct {
		parts   [4]int
		pair    [2]int
		witness plan.Witness
		want    api.Errno
	}{
		{[4]int{2, 10, 4, 0}, [2]int{1, 0}, in(0), api.OK},
		{[4]int{2, 10, 4, 0}, [2]int{0, 0}, in(2), api.OK}, // the rounds justify the hops
		{[4]int{2, 10, 4, 0}, [2]int{1, 2}, out(1), api.OK},
		{[4]int{2, 11, 4, 0}, [2]int{1, 2}, out(1), api.ErrBound},
		{[4]int{3, 10, 4, 0}, [2]int{1, 0}, in(0), api.ErrBound},
		{[4]int{3, 15, 4, 0}, [2]int{1, 0}, in(0), api.ErrBound},
		{[4]int{2, 10, 5, 0}, [2]int{1, 0}, in(0), api.ErrBound},
		{[4]int{2, 10, 4, 1}, [2]int{1, 0}, in(0), api.ErrBound},
		{[4]int{1, 10, 4, 0}, [2]int{1, 0}, in(0), api.ErrBound}, // fewer rounds justify fewer hops
		{[4]int{1, 5, 4, 0}, [2]int{1, 0}, in(0), api.OK},
		{[4]int{1, 6, 4, 0}, [2]int{1, 0}, in(0), api.ErrBound}, // the home of 0 is at the distance 5
		{[4]int{1, 6, 4, 0}, [2]int{0, 2}, in(0), api.ErrBound}, // 2 does not need 0
		{[4]int{0, 5, 4, 0}, [2]int{1, 0}, in(0), api.OK},
		{[4]int{0, 5, 4, 0}, [2]int{1, 2}, in(0), api.OK},
		{[4]int{0, 5, 4, 0}, [2]int{0, 1}, in(0), api.ErrBound}, // the wrong way
		{[4]int{0, 5, 4, 0}, [2]int{1, 1}, in(0), api.ErrBound},
		{[4]int{0, 1, 4, 0}, [2]int{-1, 0}, in(0), api.ErrBound},
		{[4]int{0, 1, 4, 0}, [2]int{1, 3}, in(0), api.ErrBound},
		{[4]int{0, 0, 4, 0}, [2]int{highest, lowest}, in(0), api.OK},
		{[4]int{2, 10, 2, 0}, [2]int{1, 0}, in(1), api.OK}, // the rounds justify the words
		{[4]int{2, 10, 3, 0}, [2]int{1, 0}, in(1), api.ErrBound},
		{[4]int{1, 5, 2, 0}, [2]int{1, 0}, in(1), api.ErrBound},
		{[4]int{2, 10, 2, 0}, [2]int{1, 0}, in(3), api.OK},
		{[4]int{2, 10, 3, 0}, [2]int{1, 0}, in(3), api.ErrBound},
		{[4]int{2, 10, 3, 0}, [2]int{1, 0}, in(-1), api.ErrBound},
		{[4]int{2, 10, 3, 0}, [2]int{1, 0}, out(3), api.ErrBound},
		{[4]int{2, 10, 3, 0}, [2]int{1, 0}, out(0), api.ErrBound},
		{[4]int{2, 10, 3, 0}, [2]int{1, 0}, plan.Witness{}, api.ErrBound},
		{[4]int{2, 10, 3, 0}, [2]int{1, 0}, plan.Witness{Kind: 4, Rank: 1, Side: side(m.Net, 0)}, api.ErrBound},
		{[4]int{0, 0, 2, 0}, [2]int{}, cut(side(m.Net, 0)), api.OK}, // 4 words over 2 links
		{[4]int{0, 0, 3, 0}, [2]int{}, cut(side(m.Net, 0)), api.ErrBound},
		{[4]int{0, 0, 1, 0}, [2]int{}, cut(side(m.Net, 5)), api.ErrBound}, // the root needs nothing
		{[4]int{0, 0, 1, 0}, [2]int{}, cut(side(m.Net, 0)[:15]), api.ErrBound},
		{[4]int{0, 0, 1, 0}, [2]int{}, cut(nil), api.ErrBound},
		{[4]int{0, 0, 1, 0}, [2]int{}, in(3), api.ErrBound},
		{[4]int{0, 0, 1, 0}, [2]int{}, out(-1), api.ErrBound},
		{[4]int{0, 0, 1, 0}, [2]int{}, plan.Witness{}, api.ErrBound},
		{[4]int{0, 0, 1, 0}, [2]int{}, plan.Witness{Kind: 4, Rank: 1, Side: side(m.Net, 0)}, api.ErrBound},
		{[4]int{0, 0, 4, 0}, [2]int{}, plan.Witness{Kind: plan.In, Side: side(m.Net, 0)[:15]}, api.OK}, // its side does not matter
		{[4]int{0, 0, 2, 0}, [2]int{}, plan.Witness{Kind: plan.Cut, Rank: 99, Side: side(m.Net, 0)}, api.OK},
		{[4]int{}, [2]int{}, cut(nil), api.OK},
		{[4]int{-1, 0, 0, 0}, [2]int{}, in(0), api.ErrBound},
		{[4]int{0, -1, 0, 0}, [2]int{}, in(0), api.ErrBound},
		{[4]int{0, 0, -1, 0}, [2]int{}, in(0), api.ErrBound},
		{[4]int{0, 0, 0, -1}, [2]int{}, in(0), api.ErrBound},
		{[4]int{lowest, lowest, lowest, lowest}, [2]int{}, in(0), api.ErrBound},
		{[4]int{highest, highest, highest, highest}, [2]int{}, in(0), api.ErrBound},
		{[4]int{1 << 62, 1 << 62, 1 << 62, 0}, [2]int{1, 0}, in(0), api.ErrBound},
		{[4]int{lowest, 0, 0, 0}, [2]int{1, 0}, in(0), api.ErrBound},
	} {
		other := c
		other.Low = priced(m, plan.Low{Rounds: x.parts[0], Hops: x.parts[1], Words: x.parts[2], Joins: x.parts[3], Pair: x.pair, Witness: x.witness})
		verifies(t, m, other, x.want)
		for _, by := range []int{-1, 1, highest, lowest} {
			wrong := other
			wrong.Low.Cost += by
			verifies(t, m, wrong, api.ErrBound)
		}
	}
}

// P10.5: a certificate for another task or machine is not kept, if it says too much.
func TestVerifyElsewhere(t *testing.T) {
	m := exampleMachine()
	c := chosen(t, m, task(coll.Allreduce, 4, 0, 2))
	other := c
	other.Task = task(coll.Allreduce, 4, 0, 1)
	verifies(t, m, other, api.ErrBound)
	other.Task = task(coll.Reduce, 4, 0, 2)
	verifies(t, m, other, api.ErrBound)
	dear := m
	dear.Word++
	verifies(t, dear, c, api.ErrBound)
	moved := m
	moved.Hosts = []int{0, 1, 3, 2}
	verifies(t, moved, c, api.ErrBound)
}
