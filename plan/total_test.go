package plan_test

import (
	"slices"
	"sync"
	"testing"

	"armada/api"
	"armada/coll"
	"armada/comm"
	"armada/net"
	"armada/plan"
)

// R3: nil lists are empty ones.
func TestNilLists(t *testing.T) {
	for _, empty := range [][]int{nil, {}} {
		checks(t, machine(torus(1, 4), decimal, empty...), 0, api.OK)
		checks(t, machine(net.Spec{Kind: net.Torus, Sides: empty, Hosts: 1}, decimal), 0, api.ErrArg)
	}
	m := exampleMachine()
	x := task(coll.Scan, 4, 0, 2)
	x.Grid = comm.Grid{Sizes: []int{}, Wrap: []bool{}}
	if !sameCert(chosen(t, m, x), chosen(t, m, task(coll.Scan, 4, 0, 2))) {
		t.Error(chosen(t, m, x))
	}
	for _, steps := range [][]coll.Step{nil, {}} {
		s := coll.Schedule{Task: x, Steps: steps}
		measures(t, m, s, [5]int{})
		roundsAre(t, m, s)
	}
	c := chosen(t, m, x)
	for _, side := range [][]bool{nil, {}} {
		c.Low.Witness.Side = side
		verifies(t, m, c, api.OK)
	}
}

// R4: results share no memory with arguments, nor with other results.
func TestResultsAreNew(t *testing.T) {
	m := machine(torus(4, 2), decimal, 4, 0, 1, 5, 2, 3)
	x := halo(2, -6)
	c, again := chosen(t, m, x), chosen(t, m, x)
	if c.Low.Witness.Kind != plan.Cut {
		t.Fatal(c)
	}
	c.Low.Witness.Side[0] = !c.Low.Witness.Side[0]
	c.Task.Grid.Sizes[0], c.Task.Grid.Wrap[0] = 9, false
	if !sameTask(x, halo(2, -6)) || !sameCert(chosen(t, m, x), again) {
		t.Error(x, again)
	}
	x.Grid.Sizes[0], x.Grid.Wrap[0] = 8, false
	if !sameTask(again.Task, halo(2, -6)) {
		t.Error(again)
	}
	x = halo(2, -6)
	low := bound(t, m, x)
	low.Witness.Side[1] = !low.Witness.Side[1]
	if !sameLow(bound(t, m, x), again.Low) {
		t.Error(low)
	}
	for range 2 {
		l, _ := plan.Spread(m.Net, 8)
		r, _ := plan.Rounds(m, made(t, x, coll.Ring))
		k, _ := plan.Costs(m, x)
		if !slices.Equal(l, []int{0, 4, 1, 5, 2, 6, 3, 7}) || len(r) != 2 || len(k) != 1 || r[0].Rounds != 1 || k[0].Rounds != 2 {
			t.Fatal(l, r, k)
		}
		l[0], r[0], k[0] = 9, plan.Totals{}, plan.Totals{}
	}
}

// R4: no argument is changed, also not by calls with errors.
func TestArgumentsUnchanged(t *testing.T) {
	d := dice(17)
	all := tasks(6, 2)
	for range 600 {
		x := all[d.roll(len(all))]
		m := randomMachine(&d, x.Procs)
		if d.often(3) && len(m.Hosts) > 1 {
			m.Hosts[0] = pick(&d, -1, m.Hosts[1], 1000)
		}
		s := pick(&d, append(schedules(t, x), randomSteps(&d, x))...)
		w := randomWitness(&d, m, x.Procs)
		c := plan.Cert{Task: x, Alg: s.Alg, Low: plan.Low{Witness: w}}
		hosts, sides, side, task, before := slices.Clone(m.Hosts), slices.Clone(m.Net.Sides), slices.Clone(w.Side), copiedTask(x), copied(s)
		plan.Check(m, x.Procs)
		plan.Spread(m.Net, x.Procs)
		plan.Measure(m, s)
		plan.Rounds(m, s)
		plan.Needs(x, 0, x.Procs-1)
		plan.Words(m, x, w)
		plan.Bound(m, x)
		plan.Costs(m, x)
		plan.Choose(m, x)
		plan.Verify(m, c)
		if !slices.Equal(m.Hosts, hosts) || !slices.Equal(m.Net.Sides, sides) || !slices.Equal(w.Side, side) || !sameTask(x, task) || !slices.Equal(s.Steps, before.Steps) || !sameTask(s.Task, task) {
			t.Fatal(m, s, w)
		}
	}
}

// anyNumber returns a number that is out of range in many ways, or in range.
func anyNumber(d *dice) int {
	return pick(d, lowest, -1000, -3, -2, -1, 0, 0, 1, 1, 2, 2, 3, 4, 5, 8, 16, 17, 64, 65, 255, 256, 1<<31, 1<<32, 1<<62, highest)
}

// anyNumbers returns a few of such numbers.
func anyNumbers(d *dice) []int {
	var l []int
	for range d.roll(6) {
		l = append(l, anyNumber(d))
	}
	return l
}

// anyFlags returns a few truth values.
func anyFlags(d *dice) []bool {
	var l []bool
	for range d.roll(6) {
		l = append(l, d.often(2))
	}
	return l
}

// anyMachine returns a machine that is hardly ever valid.
func anyMachine(d *dice) plan.Machine {
	n := func() int { return anyNumber(d) }
	m := plan.Machine{Net: net.Spec{Kind: n(), Sides: anyNumbers(d), Hosts: n()}, Hosts: anyNumbers(d), Start: n(), Hop: n(), Word: n(), Join: n()}
	if d.often(2) {
		m.Net = pick(d, nets()...)
	}
	if d.often(2) {
		m = withPrices(m, decimal)
	}
	return m
}

// anyTask returns a task that is hardly ever valid.
func anyTask(d *dice) coll.Task {
	t := coll.Task{Op: d.roll(14) - 1, Procs: anyNumber(d), Root: anyNumber(d), Parts: anyNumber(d), Grid: comm.Grid{Sizes: anyNumbers(d), Wrap: anyFlags(d)}}
	if d.often(2) {
		t.Root, t.Grid = 0, comm.Grid{}
	}
	return t
}

// P0: any arguments; with an error there is nothing else.
func TestAnyArguments(t *testing.T) {
	d := dice(18)
	n := func() int { return anyNumber(&d) }
	good := 0
	for range 60000 {
		m, x := anyMachine(&d), anyTask(&d)
		if d.often(4) {
			x = task(1+d.roll(10), 1+d.roll(5), 0, 1)
		}
		s := coll.Schedule{Task: x, Alg: n()}
		for range d.roll(3) {
			s.Steps = append(s.Steps, coll.Step{Round: n(), From: n(), To: n(), Src: n(), Dst: n(), Join: n()})
		}
		w := plan.Witness{Kind: n(), Rank: n(), Side: anyFlags(&d)}
		low := plan.Low{Rounds: n(), Hops: n(), Words: n(), Joins: n(), Cost: n(), Pair: [2]int{n(), n()}, Witness: w}
		c := plan.Cert{Task: x, Alg: n(), Totals: totals([5]int{n(), n(), n(), n(), n()}), Low: low}
		plan.Check(m, n())
		l, e1 := plan.Spread(m.Net, n())
		a, e2 := plan.Measure(m, s)
		r, e3 := plan.Rounds(m, s)
		is, e4 := plan.Needs(x, n(), n())
		k, e5 := plan.Words(m, x, w)
		b, e6 := plan.Bound(m, x)
		costs, e7 := plan.Costs(m, x)
		best, e8 := plan.Choose(m, x)
		plan.Verify(m, c)
		if e1 != api.OK && len(l) > 0 || e2 != api.OK && a != (plan.Totals{}) || e3 != api.OK && len(r) > 0 || e4 != api.OK && is || e5 != api.OK && k != 0 {
			t.Fatal(m, x, l, a, r, is, k)
		}
		if e6 != api.OK && !sameLow(b, plan.Low{}) || e7 != api.OK && len(costs) > 0 || e8 != api.OK && !isZero(best) {
			t.Fatal(m, x, b, costs, best)
		}
		good += truth(e8 == api.OK)
	}
	if good < 50 {
		t.Error(good)
	}
}

// P0: the largest schedule that is sound, with the greatest prices.
func TestLargestSchedule(t *testing.T) {
	x := task(coll.Alltoall, 64, 0, 4)
	s := coll.Schedule{Task: x}
	n := modelSlots(x)
	for round := range 40 {
		for rank := range x.Procs {
			for slot := range n {
				s.Steps = append(s.Steps, coll.Step{Round: round + 256 - 40, From: rank, To: (rank + 32) % 64, Src: slot, Dst: slot, Join: 1})
			}
		}
	}
	m := machine(torus(1, 16, 16), [4]int{plan.MaxPrice, plan.MaxPrice, plan.MaxPrice, plan.MaxPrice}, upTo(64)...)
	// The processes are in four rows; each message goes two rows on, and in the middle two of them take one channel.
	want := totals([5]int{40, 40 * 2, 40 * 2 * n, 40 * n, 40 * plan.MaxPrice * (1 + 2 + 3*n)})
	if got := measured(t, m, s); got != want {
		t.Errorf("%+v, not %+v", got, want)
	}
}

// Calls keep no state: many of them at a time have the same results.
func TestCallsAtTheSameTime(t *testing.T) {
	all := tasks(6, 2)
	var group sync.WaitGroup
	found := make([][]plan.Cert, 6)
	for i := range found {
		group.Go(func() {
			d := dice(19)
			for _, x := range all {
				c, _ := plan.Choose(randomMachine(&d, x.Procs), x)
				found[i] = append(found[i], c)
			}
		})
	}
	group.Wait()
	for _, l := range found[1:] {
		if !slices.EqualFunc(l, found[0], sameCert) {
			t.Error("another certificate")
		}
	}
}
