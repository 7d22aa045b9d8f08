package plan_test

import (
	"slices"
	"testing"

	"armada/api"
	"armada/coll"
	"armada/net"
	"armada/plan"
)

// decimal are prices that show the parts of a cost as digits.
var decimal = [4]int{1000, 100, 10, 1}

// P10.2: without messages there are no rounds, but joins of local steps count.
func TestMeasureLocal(t *testing.T) {
	m := machine(torus(1, 4), decimal, 0, 1, 2, 3)
	x := task(coll.Allgather, 4, 0, 2)
	measures(t, m, of(x), [5]int{})
	measures(t, m, of(x, [6]int{3, 0, 0, 0, 1, 0}), [5]int{})
	measures(t, m, of(x, [6]int{3, 0, 0, 0, 1, 1}), [5]int{0, 0, 0, 1, 1})
	local := of(x, [6]int{0, 0, 0, 0, 1, 1}, [6]int{0, 0, 0, 0, 2, 2}, [6]int{0, 0, 0, 1, 3, 0}, [6]int{0, 1, 1, 2, 3, 1}, [6]int{0, 1, 2, 2, 3, 1}, [6]int{0, 2, 2, 4, 5, 1})
	measures(t, m, local, [5]int{1, 1, 1, 2, 1112}) // 0 joins twice, 1 once, and 2 what it has and what it receives
	measures(t, m, made(t, task(coll.Alltoall, 4, 0, 1), coll.Bruck), [5]int{2, 3, 6, 0, 2360})
}

// P10.2: processes with one home have no channels between them, but their messages have words.
func TestMeasureOneHome(t *testing.T) {
	m := machine(torus(4, 2), decimal, 0, 1, 2, 7)
	x := task(coll.Bcast, 4, 0, 3)
	measures(t, m, of(x, [6]int{0, 0, 1, 0, 0, 0}, [6]int{0, 0, 1, 1, 1, 0}), [5]int{1, 0, 2, 0, 1020})
	exchange := of(x, [6]int{0, 0, 1, 0, 0, 0}, [6]int{0, 1, 0, 0, 0, 0}, [6]int{0, 1, 0, 1, 1, 0}, [6]int{0, 2, 3, 0, 0, 0})
	measures(t, m, exchange, [5]int{1, 1, 2, 0, 1120})
	measures(t, machine(tree(4, 1), decimal, 0, 1, 2, 3), made(t, task(coll.Barrier, 4, 0, 1), coll.Ring), [5]int{2, 0, 2, 2, 2022})
	both := of(x, [6]int{0, 0, 3, 0, 0, 0}, [6]int{0, 1, 2, 0, 0, 0}, [6]int{0, 1, 2, 1, 1, 0}, [6]int{0, 1, 2, 2, 2, 0})
	measures(t, m, both, [5]int{1, 1, 3, 0, 1130})
}

// P10.2: a channel is loaded by all messages that take it, in its direction.
func TestMeasureChannels(t *testing.T) {
	m := machine(torus(1, 8), decimal, 0, 1, 2, 3, 4, 5, 6, 7)
	x := task(coll.Bcast, 8, 0, 4)
	behind := of(x, [6]int{0, 0, 3, 0, 0, 0}, [6]int{0, 1, 4, 0, 0, 0}, [6]int{0, 1, 4, 1, 1, 0}, [6]int{0, 2, 6, 0, 0, 0})
	measures(t, m, behind, [5]int{1, 4, 4, 0, 1440}) // the channel from 2 to 3 is on all three paths
	against := of(x, [6]int{0, 0, 3, 0, 0, 0}, [6]int{0, 3, 0, 0, 0, 0}, [6]int{0, 3, 0, 1, 1, 0})
	measures(t, m, against, [5]int{1, 3, 2, 0, 1320})
	half := of(x, [6]int{0, 0, 4, 0, 0, 0}, [6]int{0, 3, 5, 0, 0, 0}, [6]int{0, 6, 7, 0, 0, 0})
	measures(t, m, half, [5]int{1, 4, 2, 0, 1420}) // half of the ring is gone upwards, over 3 and 4
	apart := of(x, [6]int{0, 0, 3, 0, 0, 0}, [6]int{1, 1, 4, 0, 0, 0}, [6]int{4, 1, 2, 0, 0, 0})
	measures(t, m, apart, [5]int{3, 7, 3, 0, 3730}) // in rounds of their own
	around := of(x, [6]int{0, 6, 0, 0, 0, 0}, [6]int{0, 7, 1, 0, 0, 0})
	measures(t, m, around, [5]int{1, 2, 2, 0, 1220})
}

// P10.2: messages go from home to home, wherever the processes are.
func TestMeasureHosts(t *testing.T) {
	x := task(coll.Bcast, 3, 0, 1)
	l := [][6]int{{0, 0, 1, 0, 0, 0}, {1, 0, 2, 0, 0, 0}}
	measures(t, machine(torus(1, 16), decimal, 0, 5, 10), of(x, l...), [5]int{2, 11, 2, 0, 3120})
	measures(t, machine(torus(1, 16), decimal, 5, 0, 10), of(x, l...), [5]int{2, 10, 2, 0, 3020})
	measures(t, machine(torus(4, 16), decimal, 3, 60, 4), of(x, l...), [5]int{2, 2, 2, 0, 2220})
	measures(t, machine(tree(2, 3), decimal, 0, 1, 7), of(x, l...), [5]int{2, 4, 2, 0, 2420})
	measures(t, machine(tree(2, 3), decimal, 0, 3, 2), of(x, l...), [5]int{2, 4, 2, 0, 2420})
}

// longer returns two homes of a dragonfly between which the route is longer than the distance, and its length.
func longer(t *testing.T, s net.Spec) (x, y, length int) {
	t.Helper()
	switches, _ := size(s)
	for x := range switches {
		for y := range switches {
			path, _ := net.Route(s, x, y)
			if d, _ := net.Distance(s, x, y); len(path)-1 > d {
				return x, y, len(path) - 1
			}
		}
	}
	t.Fatal("all routes are the shortest paths")
	return 0, 0, 0
}

// P10.2, P10.4: costs are those of routes, bounds are those of distances.
func TestRoutesAndDistances(t *testing.T) {
	s := dragonfly(1, 3, 2)
	x, y, length := longer(t, s)
	m := machine(s, decimal, x, y)
	b := task(coll.Bcast, 2, 0, 1)
	measures(t, m, made(t, b, coll.Linear), [5]int{1, length, 1, 0, 1010 + 100*length})
	isBound(t, m, b, [5]int{1, length - 1, 1, 0, 910 + 100*length}, [2]int{0, 1}, in(1))
}

// P10.2: joins are those of the process with the most of them in a round, in all slots.
func TestMeasureJoins(t *testing.T) {
	m := machine(torus(1, 4), decimal, 0, 1, 2, 3)
	x := task(coll.Reduce, 4, 0, 3)
	measures(t, m, made(t, x, coll.Linear), [5]int{3, 4, 9, 9, 3499})
	measures(t, m, made(t, x, coll.Tree), [5]int{2, 3, 6, 6, 2366}) // 3 to 2, and 1 to 0; 2 to 0
	some := of(x, [6]int{0, 0, 1, 0, 0, 1}, [6]int{0, 0, 1, 1, 1, 0}, [6]int{0, 0, 1, 2, 2, 2}, [6]int{0, 2, 3, 0, 0, 2}, [6]int{1, 2, 3, 0, 0, 1})
	measures(t, m, some, [5]int{2, 2, 4, 3, 2243})
}

// P10.2: each price has its part.
func TestPrices(t *testing.T) {
	x := of(task(coll.Allreduce, 4, 0, 5), [6]int{0, 0, 2, 0, 0, 1}, [6]int{1, 0, 1, 0, 0, 0}, [6]int{1, 0, 1, 1, 1, 0}, [6]int{1, 0, 1, 2, 2, 0}, [6]int{1, 0, 1, 3, 3, 0})
	for _, p := range []struct {
		prices [4]int
		cost   int
	}{
		{[4]int{}, 0}, {[4]int{1}, 2}, {[4]int{0, 1}, 3}, {[4]int{0, 0, 1}, 5}, {[4]int{0, 0, 0, 1}, 1}, {[4]int{5, 7, 11, 13}, 10 + 21 + 55 + 13},
		{[4]int{plan.MaxPrice, plan.MaxPrice, plan.MaxPrice, plan.MaxPrice}, 11000000},
	} {
		measures(t, machine(torus(1, 4), p.prices, 0, 1, 2, 3), x, [5]int{2, 3, 5, 1, p.cost})
	}
}

// roundsAre fails unless Rounds returns some totals.
func roundsAre(t *testing.T, m plan.Machine, s coll.Schedule, want ...[5]int) {
	t.Helper()
	var l []plan.Totals
	for _, x := range want {
		l = append(l, totals(x))
	}
	if got, e := plan.Rounds(m, s); !slices.Equal(got, l) || e != api.OK {
		t.Errorf("Rounds of %+v on %+v: %v %v, not %v", s, m, got, e, l)
	}
}

// P10.2: Rounds has one element for each round, also for those without steps.
func TestRounds(t *testing.T) {
	m := machine(torus(1, 4), decimal, 0, 1, 2, 3)
	x := task(coll.Bcast, 4, 0, 2)
	roundsAre(t, m, of(x))
	roundsAre(t, m, made(t, x, coll.Tree), [5]int{1, 1, 2, 0, 1120}, [5]int{1, 2, 4, 0, 1240})
	roundsAre(t, m, of(x, [6]int{2, 0, 0, 0, 1, 2}), [5]int{}, [5]int{}, [5]int{0, 0, 0, 1, 1})
	gaps := of(x, [6]int{1, 0, 2, 0, 0, 0}, [6]int{1, 1, 0, 0, 0, 2}, [6]int{3, 0, 1, 0, 0, 0}, [6]int{3, 0, 1, 1, 1, 0}, [6]int{3, 1, 2, 0, 0, 0})
	roundsAre(t, m, gaps, [5]int{}, [5]int{1, 2, 1, 1, 1211}, [5]int{}, [5]int{1, 1, 2, 0, 1120})
	last := of(x, [6]int{255, 3, 0, 0, 0, 1})
	l, e := plan.Rounds(m, last)
	if len(l) != 256 || e != api.OK || l[254] != (plan.Totals{}) || l[255] != totals([5]int{1, 1, 1, 1, 1111}) {
		t.Error(len(l), e, l)
	}
}

// randomSteps returns a schedule that is sound, of steps at random.
func randomSteps(d *dice, x coll.Task) coll.Schedule {
	s := coll.Schedule{Task: x, Alg: d.roll(20) - 3}
	p, n := x.Procs, modelSlots(x)
	peers := upTo(p)
	round := 0
	for range d.roll(5) {
		round += d.roll(3)
		shuffle(d, peers)
		for from, to := range peers {
			if d.often(3) {
				to = from
			}
			for range d.roll(1 + min(n, 6)) {
				y := coll.Step{Round: round, From: from, To: to, Src: d.roll(n), Dst: d.roll(n), Join: d.roll(3)}
				more := copied(s)
				more.Steps = append(more.Steps, y)
				sortSteps(more.Steps)
				if coll.Sound(more) == api.OK {
					s = more
				}
			}
		}
	}
	return s
}

// isMeasured fails unless Measure and Rounds give what the model gives.
func isMeasured(t *testing.T, m plan.Machine, s coll.Schedule) {
	t.Helper()
	each, sum := modelRounds(m, s)
	if got, e := plan.Measure(m, s); got != sum || e != api.OK {
		t.Fatalf("Measure of %+v on %+v: %+v %v, not %+v", s, m, got, e, sum)
	}
	if l, e := plan.Rounds(m, s); !slices.Equal(l, each) || e != api.OK {
		t.Fatalf("Rounds of %+v on %+v: %v %v, not %v", s, m, l, e, each)
	}
}

// P10.2: schedules of steps at random, right or not, on machines at random.
func TestMeasureRandom(t *testing.T) {
	d := dice(2)
	all := tasks(8, 3)
	shared := 0
	for range 2500 {
		x := all[d.roll(len(all))]
		m := randomMachine(&d, x.Procs)
		s := randomSteps(&d, x)
		isMeasured(t, m, s)
		got := measured(t, m, s)
		shared += truth(got.Words > got.Joins && got.Rounds > 1)
	}
	if shared < 200 {
		t.Error(shared)
	}
}

// P10.2: schedules that are made, on machines at random.
func TestMeasureMade(t *testing.T) {
	d := dice(3)
	all := tasks(9, 3)
	for range 700 {
		x := all[d.roll(len(all))]
		for _, s := range schedules(t, x) {
			isMeasured(t, randomMachine(&d, x.Procs), s)
		}
	}
}

// P10.2: the totals of a schedule are the sums of those of its rounds, each of which is a schedule by itself.
func TestRoundsAlone(t *testing.T) {
	d := dice(4)
	all := tasks(10, 4)
	for range 400 {
		x := all[d.roll(len(all))]
		m := randomMachine(&d, x.Procs)
		s := pick(&d, append(schedules(t, x), randomSteps(&d, x))...)
		l, e := plan.Rounds(m, s)
		rounds, _ := coll.Rounds(s)
		if e != api.OK || len(l) != rounds {
			t.Fatal(s, l, e)
		}
		var sum plan.Totals
		for round, part := range l {
			alone := copied(s)
			alone.Steps = slices.DeleteFunc(alone.Steps, func(x coll.Step) bool { return x.Round != round })
			if got := measured(t, m, alone); got != part {
				t.Fatalf("%+v on %+v: the round %d alone has %+v, not %+v", s, m, round, got, part)
			}
			sum = plan.Totals{Rounds: sum.Rounds + part.Rounds, Hops: sum.Hops + part.Hops, Words: sum.Words + part.Words, Joins: sum.Joins + part.Joins, Cost: sum.Cost + part.Cost}
		}
		if got := measured(t, m, s); got != sum {
			t.Fatalf("%+v on %+v: %+v, not the sum %+v", s, m, got, sum)
		}
	}
}
