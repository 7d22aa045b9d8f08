package plan_test

import (
	"testing"

	"armada/api"
	"armada/coll"
	"armada/plan"
)

// needsAre fails unless for each process, as the needed one, Needs is true for the processes that a string names.
func needsAre(t *testing.T, x coll.Task, by ...string) {
	t.Helper()
	if len(by) != x.Procs {
		t.Fatal(x, by)
	}
	for a := range x.Procs {
		got := ""
		for b := range x.Procs {
			is, e := plan.Needs(x, a, b)
			if e != api.OK {
				t.Errorf("Needs of %+v, %d, %d: %v", x, a, b, e)
			}
			if is {
				got += string(rune('0' + b))
			}
		}
		if got != by[a] {
			t.Errorf("%+v: %d is needed by %q, not by %q", x, a, got, by[a])
		}
	}
}

// P10.3: who needs whom.
func TestNeeds(t *testing.T) {
	for n := 1; n <= 2; n++ {
		needsAre(t, task(coll.Bcast, 4, 1, n), "", "023", "", "")
		needsAre(t, task(coll.Scatter, 4, 3, n), "", "", "", "012")
		needsAre(t, task(coll.Reduce, 4, 1, n), "1", "", "1", "1")
		needsAre(t, task(coll.Gather, 4, 0, n), "", "0", "0", "0")
		needsAre(t, task(coll.Scan, 4, 0, n), "123", "23", "3", "")
		for _, op := range []int{coll.Allreduce, coll.Allgather, coll.Alltoall, coll.ReduceScatter} {
			needsAre(t, task(op, 4, 0, n), "123", "023", "013", "012")
		}
		needsAre(t, halo(n, 4), "1", "02", "13", "2")
		needsAre(t, halo(n, -4), "13", "02", "13", "02")
		needsAre(t, halo(n, -3), "12", "02", "01")
		needsAre(t, halo(n, -2), "1", "0")
		needsAre(t, halo(n, 2), "1", "0")
		needsAre(t, halo(n, 2, 3), "13", "024", "15", "04", "135", "24")
		needsAre(t, halo(n, -1, 3), "1", "02", "1")
		needsAre(t, halo(n, -1), "")
		needsAre(t, halo(n, 1, 1), "")
		needsAre(t, halo(n, 2, -2, 2), "124", "035", "036", "127", "056", "147", "247", "356")
	}
	needsAre(t, task(coll.Barrier, 3, 0, 1), "12", "02", "01")
	for op := 1; op < coll.Halo; op++ {
		needsAre(t, task(op, 1, 0, 1), "")
	}
}

// P10.3: Needs, as the model has it.
func TestNeedsModel(t *testing.T) {
	for _, x := range tasks(9, 2) {
		q := ask(plan.Machine{}, x)
		for a := range x.Procs {
			for b := range x.Procs {
				if is, e := plan.Needs(x, a, b); is != q.needsOf(a, b) || e != api.OK {
					t.Errorf("Needs of %+v, %d, %d: %v %v", x, a, b, is, e)
				}
			}
		}
	}
}

// P10.3: the words that a process needs and gives, for each operation.
func TestWordsOfProcesses(t *testing.T) {
	m := exampleMachine()
	for _, x := range []struct {
		task    coll.Task
		in, out [4]int
	}{
		{task(coll.Bcast, 4, 1, 3), [4]int{3, 0, 3, 3}, [4]int{0, 3, 0, 0}},
		{task(coll.Reduce, 4, 1, 3), [4]int{0, 3, 0, 0}, [4]int{3, 0, 3, 3}},
		{task(coll.Allreduce, 4, 0, 3), [4]int{3, 3, 3, 3}, [4]int{3, 3, 3, 3}},
		{task(coll.Scan, 4, 0, 3), [4]int{0, 3, 3, 3}, [4]int{3, 3, 3, 0}},
		{task(coll.Gather, 4, 2, 3), [4]int{0, 0, 9, 0}, [4]int{3, 3, 0, 3}},
		{task(coll.Scatter, 4, 2, 3), [4]int{3, 3, 0, 3}, [4]int{0, 0, 9, 0}},
		{task(coll.Allgather, 4, 0, 3), [4]int{9, 9, 9, 9}, [4]int{3, 3, 3, 3}},
		{task(coll.Alltoall, 4, 0, 3), [4]int{9, 9, 9, 9}, [4]int{9, 9, 9, 9}},
		{task(coll.ReduceScatter, 4, 0, 3), [4]int{3, 3, 3, 3}, [4]int{9, 9, 9, 9}},
		{task(coll.Barrier, 4, 0, 1), [4]int{1, 1, 1, 1}, [4]int{1, 1, 1, 1}},
		{halo(3, 4), [4]int{3, 6, 6, 3}, [4]int{3, 3, 3, 3}},
		{halo(3, -4), [4]int{6, 6, 6, 6}, [4]int{3, 3, 3, 3}},
		{halo(3, -2, -2), [4]int{6, 6, 6, 6}, [4]int{3, 3, 3, 3}},
	} {
		for rank := range 4 {
			if n := words(t, m, x.task, in(rank)); n != x.in[rank] {
				t.Errorf("%+v: In of %d is %d, not %d", x.task, rank, n, x.in[rank])
			}
			if n := words(t, m, x.task, out(rank)); n != x.out[rank] {
				t.Errorf("%+v: Out of %d is %d, not %d", x.task, rank, n, x.out[rank])
			}
		}
	}
}

// P10.3: the words that the processes of a side need.
func TestWordsOfSides(t *testing.T) {
	// 8 processes, of which 0 to 3 are at the switch 0, on two switches with one link.
	pair := machine(torus(4, 2), decimal, upTo(8)...)
	for _, x := range []struct {
		task          coll.Task
		first, second int // words into the switch 0, and into 1
	}{
		{task(coll.Bcast, 8, 2, 3), 0, 3},
		{task(coll.Bcast, 8, 6, 3), 3, 0},
		{task(coll.Reduce, 8, 2, 3), 3, 0},
		{task(coll.Allreduce, 8, 0, 3), 3, 3},
		{task(coll.Scan, 8, 0, 3), 0, 3},
		{task(coll.Gather, 8, 2, 3), 12, 0},
		{task(coll.Scatter, 8, 2, 3), 0, 12},
		{task(coll.Allgather, 8, 0, 3), 12, 12},
		{task(coll.Alltoall, 8, 0, 3), 48, 48},
		{task(coll.ReduceScatter, 8, 0, 3), 12, 12},
		{task(coll.Barrier, 8, 0, 1), 1, 1},
		{halo(3, 8), 3, 3},
		{halo(3, -8), 6, 6},
		{halo(3, 2, 4), 12, 12},
		{halo(3, 4, 2), 6, 6},
	} {
		first, second := words(t, pair, x.task, cut([]bool{true, false})), words(t, pair, x.task, cut([]bool{false, true}))
		if first != x.first || second != x.second {
			t.Errorf("%+v: %d %d, not %d %d", x.task, first, second, x.first, x.second)
		}
		for _, all := range []bool{false, true} {
			if n := words(t, pair, x.task, cut([]bool{all, all})); n != 0 {
				t.Errorf("%+v: %d words without links", x.task, n)
			}
		}
	}
}

// P10.3: the words of a side are shared by its links, rounded up.
func TestWordsOfLinks(t *testing.T) {
	m := machine(torus(1, 3, 4), decimal, upTo(12)...)
	x := task(coll.Gather, 12, 0, 3)
	for _, y := range []struct {
		side  []int
		links int
		words int
	}{
		{[]int{}, 0, 0},
		{[]int{0}, 4, 9},                                    // 33 words
		{[]int{0, 1}, 6, 5},                                 // 30
		{[]int{0, 2}, 8, 4},                                 // 30
		{[]int{0, 5}, 8, 4},                                 // 30
		{[]int{0, 4, 8}, 6, 5},                              // 27
		{[]int{0, 1, 2, 3}, 8, 3},                           // 24
		{[]int{0, 1, 4, 5, 8, 9}, 6, 3},                     // 18
		{[]int{0, 2, 5, 7, 8, 10}, 20, 1},                   // 18
		{[]int{0, 1, 2, 3, 8, 9, 10, 11}, 8, 2},             // 12
		{[]int{0, 1, 2, 4, 5, 6, 8, 9, 10}, 6, 2},           // 9
		{[]int{0, 1, 3, 9, 10, 11, 4, 5, 7}, 10, 1},         // 9
		{[]int{0, 1, 2, 3, 4, 5, 6, 7, 8, 9, 10}, 4, 1},     // 3
		{[]int{1, 2, 3, 4, 5, 6, 7, 8, 9, 10, 11}, 4, 0},    // without the root
		{[]int{0, 1, 2, 3, 4, 5, 6, 7, 8, 9, 10, 11}, 0, 0}, // all of them
	} {
		links := 0
		for _, l := range linksOf(m) {
			s := side(m.Net, y.side...)
			links += truth(s[l.A] != s[l.B])
		}
		if n := words(t, m, x, cut(side(m.Net, y.side...))); n != y.words || links != y.links {
			t.Errorf("%v: %d words over %d links, not %d over %d", y.side, n, links, y.words, y.links)
		}
	}
}

// P10.3: inside are the processes whose home is in the side, wherever they are; other switches have none.
func TestWordsOfHomes(t *testing.T) {
	m := machine(torus(2, 4), decimal, 7, 0, 6, 3) // the processes 0 and 2 are at the switch 3, 1 at 0, and 3 at 1
	x := task(coll.Allgather, 4, 0, 6)
	for _, y := range []struct {
		side []int
		want int
	}{
		{[]int{3}, 6}, {[]int{0}, 9}, {[]int{1}, 9}, {[]int{2}, 0}, {[]int{0, 1, 3}, 0}, {[]int{0, 1}, 6}, {[]int{2, 3}, 6}, {[]int{0, 2}, 5}, {[]int{1, 3}, 2},
	} {
		if n := words(t, m, x, cut(side(m.Net, y.side...))); n != y.want {
			t.Errorf("%v: %d, not %d", y.side, n, y.want)
		}
	}
	f := machine(tree(2, 3), decimal, 0, 1, 4, 5) // the homes are 0 and 2; the switches 4 to 11 have no hosts
	y := task(coll.Allgather, 4, 0, 6)
	for _, z := range []struct {
		side []int
		want int
	}{
		{[]int{0}, 6}, {[]int{0, 1, 4, 5}, 3}, {[]int{4, 5}, 0}, {[]int{0, 4}, 3},
	} {
		if n := words(t, f, y, cut(side(f.Net, z.side...))); n != z.want {
			t.Errorf("%v: %d, not %d", z.side, n, z.want)
		}
	}
}

// P10.3: the fields that a witness does not use do not matter.
func TestWordsOtherFields(t *testing.T) {
	m := exampleMachine()
	for _, x := range tasks(4, 2) {
		if x.Procs != 4 {
			continue
		}
		for _, s := range [][]bool{nil, {}, {true}, side(m.Net, 1), make([]bool, 99)} {
			if words(t, m, x, plan.Witness{Kind: plan.In, Rank: 2, Side: s}) != words(t, m, x, in(2)) || words(t, m, x, plan.Witness{Kind: plan.Out, Rank: 2, Side: s}) != words(t, m, x, out(2)) {
				t.Error(x, s)
			}
		}
		for _, rank := range []int{lowest, -1, 3, 4, highest} {
			if words(t, m, x, plan.Witness{Kind: plan.Cut, Rank: rank, Side: side(m.Net, 0, 3)}) != words(t, m, x, cut(side(m.Net, 0, 3))) {
				t.Error(x, rank)
			}
		}
	}
}

// randomWitness returns a witness, mostly one as stated.
func randomWitness(d *dice, m plan.Machine, procs int) plan.Witness {
	switches, _ := size(m.Net)
	w := plan.Witness{Kind: 1 + d.roll(3), Rank: d.roll(procs)}
	if d.often(12) {
		w.Kind = pick(d, -1, 0, 4, 9)
	}
	if d.often(12) {
		w.Rank = pick(d, -2, -1, procs, 64, 99)
	}
	if d.often(12) {
		switches += pick(d, -1, 1)
	}
	for range switches {
		w.Side = append(w.Side, d.often(2))
	}
	return w
}

// P10.3: Words, as the model has them.
func TestWordsRandom(t *testing.T) {
	d := dice(5)
	all := tasks(9, 3)
	good := 0
	for range 1500 {
		x := all[d.roll(len(all))]
		m := randomMachine(&d, x.Procs)
		q := ask(m, x)
		for range 8 {
			w := randomWitness(&d, m, x.Procs)
			want, ok := q.words(w)
			n, e := plan.Words(m, x, w)
			if !ok && (n != 0 || e != api.ErrArg) || ok && (n != want || e != api.OK) {
				t.Fatalf("Words of %+v on %+v by %+v: %d %v, not %d %v", x, m, w, n, e, want, ok)
			}
			good += truth(ok && n > 0)
		}
	}
	if good < 4000 {
		t.Error(good)
	}
}
