package plan_test

import (
	"slices"
	"testing"

	"armada/api"
	"armada/coll"
	"armada/plan"
)

// isRight reports whether a schedule is right.
func isRight(s coll.Schedule) bool {
	ok, e := coll.Right(s)
	return ok && e == api.OK
}

// renamed returns a right schedule of which all processes have other numbers, if its operation allows that.
func renamed(d *dice, s coll.Schedule) coll.Schedule {
	if s.Task.Op == coll.Scan || s.Task.Op == coll.Halo {
		return s
	}
	s = copied(s)
	p, n := s.Task.Procs, s.Task.Parts
	to := upTo(p)
	shuffle(d, to)
	slot := func(x int) int {
		if !isWide(s.Task.Op) {
			return x
		}
		block := x / n
		return (block/p*p+to[block%p])*n + x%n
	}
	if hasRoot(s.Task.Op) {
		s.Task.Root = to[s.Task.Root]
	}
	for i, x := range s.Steps {
		s.Steps[i] = coll.Step{Round: x.Round, From: to[x.From], To: to[x.To], Src: slot(x.Src), Dst: slot(x.Dst), Join: x.Join}
	}
	sortSteps(s.Steps)
	return s
}

// thinned returns a right schedule of which steps are left out, done earlier, or not joined, as long as it remains right.
func thinned(d *dice, s coll.Schedule) coll.Schedule {
	for range 12 + d.roll(30) {
		if len(s.Steps) == 0 {
			return s
		}
		less := copied(s)
		i := d.roll(len(less.Steps))
		round := less.Steps[i].Round
		switch d.roll(5) {
		case 0:
			less.Steps = slices.Delete(less.Steps, i, i+1)
		case 1:
			less.Steps[i].Round--
		case 2:
			less.Steps[i].Join = 0
		case 3: // all steps of the round
			for j := range less.Steps {
				less.Steps[j].Round -= truth(less.Steps[j].Round == round)
			}
		case 4: // all steps from the round on
			for j := range less.Steps {
				less.Steps[j].Round -= truth(less.Steps[j].Round >= round)
			}
		}
		sortSteps(less.Steps)
		if isRight(less) {
			s = less
		}
	}
	return s
}

// thickened returns a right schedule to which steps are added, as long as it remains right.
func thickened(d *dice, s coll.Schedule) coll.Schedule {
	p, n := s.Task.Procs, modelSlots(s.Task)
	for range 1 + d.roll(8) {
		more := copied(s)
		if d.often(3) {
			round := d.roll(9)
			for j := range more.Steps {
				more.Steps[j].Round += truth(more.Steps[j].Round >= round)
			}
		}
		more.Steps = append(more.Steps, coll.Step{Round: d.roll(12), From: d.roll(p), To: d.roll(p), Src: d.roll(n), Dst: d.roll(n), Join: d.roll(3)})
		sortSteps(more.Steps)
		if isRight(more) {
			s = more
		}
	}
	return s
}

// notBelow fails if a part of some totals, or their cost, is less than that of others.
func notBelow(t *testing.T, x, low plan.Totals, what ...any) {
	t.Helper()
	if x.Rounds < low.Rounds || x.Hops < low.Hops || x.Words < low.Words || x.Joins < low.Joins || x.Cost < low.Cost {
		t.Fatalf("%+v is less than %+v: %+v", x, low, what)
	}
}

// isAbove fails unless the totals of a right schedule are not less than its bound, than a bound that is kept, and than the words of witnesses.
func isAbove(t *testing.T, d *dice, m plan.Machine, s coll.Schedule) (exact bool) {
	t.Helper()
	x := measured(t, m, s)
	low := bound(t, m, s.Task)
	notBelow(t, x, lowTotals(low), m, s)
	c := chosen(t, m, s.Task)
	c.Low = changedLow(d, m, s.Task.Procs, c.Low)
	if plan.Verify(m, c) == api.OK {
		notBelow(t, x, lowTotals(c.Low), m, s, c)
	}
	l := ask(m, s.Task).witnesses()
	for range 6 {
		w := pick(d, l...)
		if d.often(2) {
			w = randomWitness(d, m, s.Task.Procs)
		}
		if n, e := plan.Words(m, s.Task, w); e == api.OK && x.Words < n {
			t.Fatalf("%+v on %+v has %d words, not %d by %+v", s, m, x.Words, n, w)
		}
	}
	return x == lowTotals(low)
}

// P10.6: no right schedule costs less than the bound.
func TestBoundsHold(t *testing.T) {
	d := dice(10)
	all := tasks(9, 3)
	exact := 0
	for range 2500 {
		x := all[d.roll(len(all))]
		s := renamed(&d, pick(&d, schedules(t, x)...))
		if d.often(2) {
			s = thickened(&d, s)
		}
		if d.often(2) {
			s = thinned(&d, s)
		}
		if !isRight(s) {
			t.Fatal(s)
		}
		exact += truth(isAbove(t, &d, randomMachine(&d, x.Procs), s))
	}
	if exact < 200 {
		t.Error(exact)
	}
}

// P10.6: small schedules of steps at random, if they are right.
func TestBoundsHoldRandom(t *testing.T) {
	d := dice(11)
	all := slices.DeleteFunc(tasks(4, 2), func(x coll.Task) bool { return modelSlots(x) > 4 || x.Procs == 1 })
	right := 0
	for range 40000 {
		s := randomSteps(&d, all[d.roll(len(all))])
		if !isRight(s) {
			continue
		}
		right++
		isAbove(t, &d, randomMachine(&d, s.Task.Procs), thinned(&d, s))
	}
	if right < 200 {
		t.Error(right)
	}
}

// P10.6: the largest tasks.
func TestBoundsOfLargest(t *testing.T) {
	d := dice(12)
	for op := 1; op < coll.Halo; op++ {
		for _, s := range []plan.Machine{machine(torus(1, 8, 8), decimal), machine(tree(4, 4), decimal), machine(dragonfly(1, 15, 1), decimal)} {
			s.Hosts, _ = plan.Spread(s.Net, 64)
			x := task(op, 64, 63*truth(hasRoot(op)), mostParts(op, 64))
			low := bound(t, s, x)
			costs, e := plan.Costs(s, x)
			if e != api.OK {
				t.Fatal(e)
			}
			for _, c := range costs {
				notBelow(t, c, lowTotals(low), s, x)
			}
			c := chosen(t, s, x)
			verifies(t, s, c, api.OK)
			c.Low.Words += 1 + d.roll(5)
			c.Low = priced(s, c.Low)
			verifies(t, s, c, api.ErrBound)
		}
	}
}

// P10.7: a certificate that is chosen is kept, and its cost is the least one of all, and not less than that of the bound.
func TestChosenIsKept(t *testing.T) {
	d := dice(13)
	all := tasks(12, 4)
	for range 800 {
		x := all[d.roll(len(all))]
		m := randomMachine(&d, x.Procs)
		c := chosen(t, m, x)
		verifies(t, m, c, api.OK)
		costs, _ := plan.Costs(m, x)
		least := slices.MinFunc(costs, func(a, b plan.Totals) int { return a.Cost - b.Cost })
		if c.Totals.Cost != least.Cost || c.Totals.Cost < c.Low.Cost {
			t.Fatalf("%+v on %+v: %+v of %+v", x, m, c, costs)
		}
	}
}

// P10.7: a certificate remains kept if parts of its bound become less, and does not if its totals are changed.
func TestKeptRemainsSo(t *testing.T) {
	d := dice(14)
	all := tasks(10, 3)
	for range 400 {
		x := all[d.roll(len(all))]
		m := randomMachine(&d, x.Procs)
		c := chosen(t, m, x)
		for range 6 {
			less := c
			for _, part := range []*int{&less.Low.Hops, &less.Low.Words, &less.Low.Joins} {
				if d.often(2) {
					*part -= d.roll(*part + 1)
				}
			}
			less.Low = priced(m, less.Low)
			verifies(t, m, less, api.OK)
			part := pick(&d, &less.Low.Hops, &less.Low.Words, &less.Low.Joins)
			*part = -1 - d.roll(3)
			less.Low = priced(m, less.Low)
			verifies(t, m, less, api.ErrBound)
			other := c
			*pick(&d, &other.Totals.Rounds, &other.Totals.Hops, &other.Totals.Words, &other.Totals.Joins, &other.Totals.Cost) += pick(&d, -2, -1, 1, 5, highest)
			verifies(t, m, other, api.ErrBound)
		}
	}
}

// withPrices returns a machine with other prices.
func withPrices(m plan.Machine, prices [4]int) plan.Machine {
	return machine(m.Net, prices, m.Hosts...)
}

// P10.8: doubled prices double all costs, and change no choice.
func TestDoubledPrices(t *testing.T) {
	d := dice(15)
	all := tasks(10, 3)
	for range 400 {
		x := all[d.roll(len(all))]
		m := randomMachine(&d, x.Procs)
		for _, price := range []*int{&m.Start, &m.Hop, &m.Word, &m.Join} {
			*price = min(*price, plan.MaxPrice/2)
		}
		twice := withPrices(m, [4]int{2 * m.Start, 2 * m.Hop, 2 * m.Word, 2 * m.Join})
		a, b := chosen(t, m, x), chosen(t, twice, x)
		a.Totals.Cost *= 2
		a.Low.Cost *= 2
		if !sameCert(a, b) {
			t.Fatalf("%+v on %+v: %+v, not %+v", x, m, b, a)
		}
		before, _ := plan.Costs(m, x)
		after, _ := plan.Costs(twice, x)
		for i := range before {
			before[i].Cost *= 2
		}
		if !slices.Equal(before, after) {
			t.Fatalf("%+v on %+v: %+v, not %+v", x, m, after, before)
		}
	}
}

// P10.8: a lesser price makes no cost greater, and changes no other part.
func TestLesserPrices(t *testing.T) {
	d := dice(16)
	all := tasks(10, 3)
	for range 400 {
		x := all[d.roll(len(all))]
		m := randomMachine(&d, x.Procs)
		less := m
		price := pick(&d, &less.Start, &less.Hop, &less.Word, &less.Join)
		*price -= d.roll(*price + 1)
		before, _ := plan.Costs(m, x)
		after, _ := plan.Costs(less, x)
		for i := range before {
			notBelow(t, before[i], after[i], x, m, less)
			before[i].Cost = after[i].Cost
		}
		a, b := bound(t, m, x), bound(t, less, x)
		notBelow(t, lowTotals(a), lowTotals(b), x, m, less)
		a.Cost = b.Cost
		if !slices.Equal(before, after) || !sameLow(a, b) || chosen(t, m, x).Totals.Cost < chosen(t, less, x).Totals.Cost {
			t.Fatalf("%+v on %+v: %+v, not %+v", x, less, after, before)
		}
	}
}
