package plan_test

import (
	"slices"
	"testing"

	"armada/api"
	"armada/coll"
	"armada/comm"
	"armada/net"
	"armada/plan"
)

const (
	highest = int(^uint(0) >> 1)
	lowest  = -highest - 1
)

// torus returns a torus with some hosts for each switch.
func torus(hosts int, sides ...int) net.Spec {
	return net.Spec{Kind: net.Torus, Sides: sides, Hosts: hosts}
}

// tree returns a fat tree.
func tree(k, n int) net.Spec { return net.Spec{Kind: net.Tree, Sides: []int{k, n}, Hosts: k} }

// dragonfly returns a dragonfly with some hosts for each switch.
func dragonfly(hosts, a, h int) net.Spec {
	return net.Spec{Kind: net.Dragonfly, Sides: []int{a, h}, Hosts: hosts}
}

// machine returns a machine with the prices for rounds, hops, words and joins.
func machine(s net.Spec, prices [4]int, hosts ...int) plan.Machine {
	return plan.Machine{Net: s, Hosts: hosts, Start: prices[0], Hop: prices[1], Word: prices[2], Join: prices[3]}
}

// exampleMachine is M of the chapter's examples.
func exampleMachine() plan.Machine { return machine(torus(1, 4), [4]int{10, 1, 2, 1}, 0, 1, 2, 3) }

// task returns a task without a grid.
func task(op, procs, root, parts int) coll.Task {
	return coll.Task{Op: op, Procs: procs, Root: root, Parts: parts}
}

// halo returns a task for a grid; a negative size is that of a ring.
func halo(parts int, sizes ...int) coll.Task {
	t := coll.Task{Op: coll.Halo, Procs: 1, Parts: parts}
	for _, size := range sizes {
		t.Grid.Wrap = append(t.Grid.Wrap, size < 0)
		t.Grid.Sizes = append(t.Grid.Sizes, max(size, -size))
		t.Procs *= max(size, -size)
	}
	return t
}

// hasRoot reports whether an operation uses a root.
func hasRoot(op int) bool {
	return slices.Contains([]int{coll.Bcast, coll.Reduce, coll.Gather, coll.Scatter}, op)
}

// isWide reports whether an operation has more slots than parts.
func isWide(op int) bool {
	return slices.Contains([]int{coll.Gather, coll.Scatter, coll.Allgather, coll.Alltoall, coll.ReduceScatter, coll.Halo}, op)
}

// isJoined reports whether values are joined in an operation.
func isJoined(op int) bool {
	return slices.Contains([]int{coll.Reduce, coll.Allreduce, coll.Scan, coll.ReduceScatter, coll.Barrier}, op)
}

// mostParts returns how many parts an operation can have with some processes.
func mostParts(op, procs int) int {
	switch {
	case op == coll.Barrier:
		return 1
	case isWide(op):
		return min(coll.MaxParts, coll.MaxBlocks/procs)
	}
	return coll.MaxParts
}

// tasks returns tasks of all operations with up to some processes and parts.
func tasks(procs, parts int) []coll.Task {
	var out []coll.Task
	for op := 1; op < coll.Halo; op++ {
		for p := 1; p <= procs; p++ {
			for n := 1; n <= min(parts, mostParts(op, p)); n++ {
				for root := range p {
					if root == 0 || hasRoot(op) {
						out = append(out, task(op, p, root, n))
					}
				}
			}
		}
	}
	for n := 1; n <= parts; n++ {
		for _, sizes := range [][]int{
			{1}, {-1}, {2}, {-2}, {3}, {-3}, {5}, {-6}, {1, 1}, {-1, 1}, {2, 2}, {-2, -2}, {2, -2}, {-3, 2}, {3, 4},
			{-3, -4}, {-1, 5}, {2, 2, 2}, {-3, 1, -2}, {2, -2, 1, -1}, {-2, -2, -2, -2},
		} {
			if t := halo(n, sizes...); t.Procs <= procs {
				out = append(out, t)
			}
		}
	}
	return out
}

// nets returns networks of all kinds.
func nets() []net.Spec {
	return []net.Spec{
		torus(4, 2), torus(3, 3), torus(1, 4), torus(4, 4), torus(2, 5), torus(1, 8), torus(2, 2, 2), torus(1, 3, 4), torus(4, 2, 3),
		torus(1, 3, 2, 3), torus(1, 2, 2, 2, 2), tree(2, 1), tree(8, 1), tree(2, 2), tree(2, 3), tree(2, 4), tree(3, 2), tree(4, 2),
		dragonfly(4, 1, 1), dragonfly(1, 1, 4), dragonfly(1, 2, 1), dragonfly(3, 2, 1), dragonfly(2, 2, 2), dragonfly(1, 3, 2), dragonfly(4, 4, 1),
	}
}

// size returns the numbers of switches and of hosts of a network.
func size(s net.Spec) (switches, hosts int) {
	switches, hosts, _ = net.Size(s)
	return switches, hosts
}

// randomMachine returns a machine for some processes, which are anywhere in a network.
func randomMachine(d *dice, procs int) plan.Machine {
	fits := slices.DeleteFunc(nets(), func(s net.Spec) bool {
		_, hosts := size(s)
		return hosts < procs
	})
	s := pick(d, fits...)
	_, n := size(s)
	hosts := upTo(n)
	if !d.often(3) {
		shuffle(d, hosts)
	}
	var prices [4]int
	for i := range prices {
		prices[i] = pick(d, 0, 1, 2, 7, 30, 1000, plan.MaxPrice)
	}
	return machine(s, prices, hosts[:procs]...)
}

// upTo returns the numbers from 0 to n - 1.
func upTo(n int) []int {
	l := make([]int, n)
	for i := range l {
		l[i] = i
	}
	return l
}

// made returns a schedule that is made.
func made(t *testing.T, of coll.Task, alg int) coll.Schedule {
	t.Helper()
	s, e := coll.Make(of, alg)
	if e != api.OK {
		t.Fatalf("Make of %+v, %d: %v", of, alg, e)
	}
	return s
}

// schedules returns all schedules that are made for a task.
func schedules(t *testing.T, of coll.Task) []coll.Schedule {
	t.Helper()
	algs, e := coll.Algorithms(of)
	if e != api.OK {
		t.Fatalf("Algorithms of %+v: %v", of, e)
	}
	var out []coll.Schedule
	for _, alg := range algs {
		out = append(out, made(t, of, alg))
	}
	return out
}

// of returns a schedule with some steps: their round, from, to, src, dst and join.
func of(t coll.Task, steps ...[6]int) coll.Schedule {
	s := coll.Schedule{Task: t}
	for _, x := range steps {
		s.Steps = append(s.Steps, coll.Step{Round: x[0], From: x[1], To: x[2], Src: x[3], Dst: x[4], Join: x[5]})
	}
	return s
}

// totals returns totals: rounds, hops, words, joins and cost.
func totals(l [5]int) plan.Totals {
	return plan.Totals{Rounds: l[0], Hops: l[1], Words: l[2], Joins: l[3], Cost: l[4]}
}

// measures fails unless Measure returns some totals.
func measures(t *testing.T, m plan.Machine, s coll.Schedule, want [5]int) {
	t.Helper()
	if got, e := plan.Measure(m, s); got != totals(want) || e != api.OK {
		t.Errorf("Measure of %+v on %+v: %+v %v, not %v", s, m, got, e, want)
	}
}

// measured returns the totals of a schedule that is sound.
func measured(t *testing.T, m plan.Machine, s coll.Schedule) plan.Totals {
	t.Helper()
	got, e := plan.Measure(m, s)
	if e != api.OK {
		t.Fatalf("Measure of %+v on %+v: %v", s, m, e)
	}
	return got
}

// words returns the words that are needed by a witness.
func words(t *testing.T, m plan.Machine, of coll.Task, w plan.Witness) int {
	t.Helper()
	n, e := plan.Words(m, of, w)
	if e != api.OK {
		t.Fatalf("Words of %+v on %+v by %+v: %v", of, m, w, e)
	}
	return n
}

// in and out are witnesses for a process, and cut is one for a side.
func in(rank int) plan.Witness  { return plan.Witness{Kind: plan.In, Rank: rank} }
func out(rank int) plan.Witness { return plan.Witness{Kind: plan.Out, Rank: rank} }
func cut(side []bool) plan.Witness {
	return plan.Witness{Kind: plan.Cut, Side: side}
}

// side returns a side of a network.
func side(s net.Spec, switches ...int) []bool {
	n, _ := size(s)
	l := make([]bool, n)
	for _, x := range switches {
		l[x] = true
	}
	return l
}

// bound returns the bound of a task.
func bound(t *testing.T, m plan.Machine, of coll.Task) plan.Low {
	t.Helper()
	l, e := plan.Bound(m, of)
	if e != api.OK {
		t.Fatalf("Bound of %+v on %+v: %v", of, m, e)
	}
	return l
}

// isBound fails unless the bound of a task has some parts (rounds, hops, words, joins and cost), a pair and a witness.
func isBound(t *testing.T, m plan.Machine, of coll.Task, parts [5]int, pair [2]int, w plan.Witness) {
	t.Helper()
	l := bound(t, m, of)
	if lowTotals(l) != totals(parts) || l.Pair != pair || !sameWitness(l.Witness, w) {
		t.Errorf("Bound of %+v on %+v: %+v, not %v %v %+v", of, m, l, parts, pair, w)
	}
}

// lowTotals returns the parts of a bound and their cost.
func lowTotals(l plan.Low) plan.Totals {
	return totals([5]int{l.Rounds, l.Hops, l.Words, l.Joins, l.Cost})
}

func sameWitness(a, b plan.Witness) bool {
	return a.Kind == b.Kind && a.Rank == b.Rank && slices.Equal(a.Side, b.Side)
}

func sameLow(a, b plan.Low) bool {
	return lowTotals(a) == lowTotals(b) && a.Pair == b.Pair && sameWitness(a.Witness, b.Witness)
}

// sameTask reports whether two tasks are the same.
func sameTask(a, b coll.Task) bool {
	return a.Op == b.Op && a.Procs == b.Procs && a.Root == b.Root && a.Parts == b.Parts &&
		slices.Equal(a.Grid.Sizes, b.Grid.Sizes) && slices.Equal(a.Grid.Wrap, b.Grid.Wrap)
}

func sameCert(a, b plan.Cert) bool {
	return sameTask(a.Task, b.Task) && a.Alg == b.Alg && a.Totals == b.Totals && sameLow(a.Low, b.Low)
}

// isZero reports whether a certificate is the zero value.
func isZero(c plan.Cert) bool { return sameCert(c, plan.Cert{}) }

// chosen returns the certificate for a task.
func chosen(t *testing.T, m plan.Machine, of coll.Task) plan.Cert {
	t.Helper()
	c, e := plan.Choose(m, of)
	if e != api.OK {
		t.Fatalf("Choose of %+v on %+v: %v", of, m, e)
	}
	return c
}

// verifies fails unless Verify returns an error, or none.
func verifies(t *testing.T, m plan.Machine, c plan.Cert, want api.Errno) {
	t.Helper()
	if e := plan.Verify(m, c); e != want {
		t.Errorf("Verify of %+v on %+v: %v, not %v", c, m, e, want)
	}
}

// priced returns a bound with the cost of its parts.
func priced(m plan.Machine, l plan.Low) plan.Low {
	l.Cost = m.Start*l.Rounds + m.Hop*l.Hops + m.Word*l.Words + m.Join*l.Joins
	return l
}

// copied returns a copy of a schedule.
func copied(s coll.Schedule) coll.Schedule {
	s.Steps = slices.Clone(s.Steps)
	s.Task = copiedTask(s.Task)
	return s
}

func copiedTask(t coll.Task) coll.Task {
	t.Grid = comm.Grid{Sizes: slices.Clone(t.Grid.Sizes), Wrap: slices.Clone(t.Grid.Wrap)}
	return t
}

// sortSteps sorts steps as a schedule has them.
func sortSteps(l []coll.Step) {
	key := func(s coll.Step) []int { return []int{s.Round, s.From, s.To, s.Src, s.Dst} }
	slices.SortStableFunc(l, func(a, b coll.Step) int { return slices.Compare(key(a), key(b)) })
}

// truth returns 1 for true and 0 for false.
func truth(is bool) int {
	if is {
		return 1
	}
	return 0
}

// dice yields the same numbers in each run of the tests.
type dice uint64

// roll returns a number from 0 to n - 1.
func (d *dice) roll(n int) int {
	*d = *d*6364136223846793005 + 1442695040888963407
	return int(uint64(*d)>>33) % n
}

// often returns true once in n times.
func (d *dice) often(n int) bool { return d.roll(n) == 0 }

// pick returns one of some elements.
func pick[T any](d *dice, l ...T) T { return l[d.roll(len(l))] }

// shuffle brings a list into some order.
func shuffle[T any](d *dice, l []T) {
	for i := range l {
		j := d.roll(i + 1)
		l[i], l[j] = l[j], l[i]
	}
}
