package window_test

import (
	"slices"
	"testing"

	"armada/api"
	"armada/window"
)

// hasEffects reports whether processes access the windows of other ones.
func hasEffects(p program) bool {
	return slices.ContainsFunc(places(p), func(x place) bool {
		a := p.Acts[x.Rank][x.Index]
		return isRemote(a.Kind) && a.Rank != x.Rank
	})
}

// P11.5: if no accesses race, the result is the same with each seed; if some race, it often is not.
func TestOneResult(t *testing.T) {
	same, other := 0, 0
	validPrograms(115, 6000, func(d *dice, p program) {
		if !hasEffects(p) {
			return
		}
		free, first := len(races(t, p)) == 0, runs(t, p, uint64(d.roll(1000)))
		for range 12 {
			r := runs(t, p, uint64(d.roll(1<<30))<<d.roll(34))
			if sameResult(r, first) {
				continue
			}
			if free {
				t.Fatal(p, first, r)
			}
			other++
			break
		}
		same += truth(free)
	})
	if same < 500 || other < 1000 {
		t.Error(same, other)
	}
}

// P11.5: programs in which each process changes cells of its own, and adds to common ones.
func TestOneResultOfMany(t *testing.T) {
	d := dice(1150)
	for range 60 {
		procs := 2 + d.roll(7)
		p := written(&d, procs, 9, 6, func() act {
			if d.often(2) {
				return acc(0, 8, api.OpSum, anyValue(&d))
			}
			return act{Kind: window.Put}
		})
		for rank, l := range p.Acts {
			l = slices.DeleteFunc(l, func(a act) bool { return isLocal(a.Kind) })
			for i := range l {
				if l[i].Kind == window.Put {
					l[i] = swap(l[i].Rank, rank, anyValue(&d), 0)
				}
			}
			p.Acts[rank] = l
		}
		racesAre(t, p)
		first := runs(t, p, 0)
		runIs(t, p, first, uint64(d.roll(1<<30)))
	}
}

// P11.6: if no process is stuck, no place comes before itself; and what comes before a place comes before all that this one comes before.
func TestStrictOrder(t *testing.T) {
	stuck := 0
	validPrograms(116, 100, func(d *dice, p program) {
		all := places(p)
		before := make([][]bool, len(all))
		for i, x := range all {
			for _, y := range all {
				before[i] = append(before[i], comes(t, p, x, y))
			}
		}
		waits := len(runs(t, p, 1).Stuck) > 0
		for i := range all {
			if before[i][i] && !waits {
				t.Fatal(p, all[i])
			}
			for k := range all {
				for n := range all {
					if before[i][k] && before[k][n] && !before[i][n] {
						t.Fatal(p, all[i], all[k], all[n])
					}
				}
			}
		}
		stuck += truth(waits)
	})
	if stuck < 15 {
		t.Error(stuck)
	}
}

// P11.6: two accesses of which one is ordered before the other one do not race, and two that conflict otherwise do.
func TestOrderedOrRacing(t *testing.T) {
	validPrograms(1160, 300, func(d *dice, p program) {
		m := model{p}
		found := races(t, p)
		l := m.accesses()
		for i, x := range l {
			for _, y := range l[i+1:] {
				update := x.Rank == y.Rank && isUpdate(m.act(x).Kind) && isUpdate(m.act(y).Kind) && m.sameCell(x, y)
				ordered := update || comes(t, p, m.completion(x), y) || comes(t, p, m.completion(y), x)
				if slices.Contains(found, [2]place{x, y}) != (m.conflict(x, y) && !ordered) {
					t.Fatal(p, x, y)
				}
			}
		}
	})
}

// P11.7: accesses that all add 1 to one cell return each number once, those of one process ascending; Acc in place of Fetch has the same end.
func TestUpdates(t *testing.T) {
	d := dice(117)
	total, mixed := 0, 0
	for range 1500 {
		procs := 1 + d.roll(5)
		rank := d.roll(procs)
		p := written(&d, procs, 1, 1+d.roll(5), func() act { return fetch(0, 0, api.OpSum, 1) })
		for i, l := range p.Acts {
			p.Acts[i] = slices.DeleteFunc(l, func(a act) bool { return isLocal(a.Kind) || isRemote(a.Kind) && a.Rank != rank })
		}
		r := runs(t, p, uint64(d.roll(1<<30)))
		var all []int64
		for _, l := range r.Values {
			if !slices.IsSorted(l) {
				t.Fatal(p, r)
			}
			all = append(all, l...)
		}
		mixed += truth(!slices.IsSorted(all))
		slices.Sort(all)
		for i, x := range all {
			if x != int64(i) {
				t.Fatal(p, r)
			}
		}
		q := copied(p)
		for _, l := range q.Acts {
			for i := range l {
				if l[i].Kind == window.Fetch {
					l[i].Kind = window.Acc
				}
			}
		}
		if end := runs(t, q, uint64(d.roll(1<<30))); len(r.Stuck) > 0 || !sameRows(end.Memory, r.Memory) || r.Memory[rank][0] != int64(len(all)) {
			t.Fatal(p, r, end)
		}
		total += len(all)
	}
	if total < 3000 || mixed < 100 {
		t.Error(total, mixed)
	}
}

// pairs returns a program whose processes change two cells of the window 0 to the same number, or read both, and the actions of what changes and of what reads.
func pairs(d *dice, change, read func(rank int) act) program {
	p := of(2, make([][]act, 2+d.roll(4))...)
	for rank := range p.Acts {
		for i := range 1 + d.roll(3) {
			value := int64(10*rank + i + 1)
			l := acts(change(0), put(0, 0, value), put(0, 1, value), unlock(0))
			if d.often(2) {
				l = acts(read(0), get(0, 0), get(0, 1), unlock(0))
			}
			if d.often(3) {
				l[1], l[2] = l[2], l[1]
			}
			p.Acts[rank] = append(p.Acts[rank], l...)
		}
	}
	return p
}

// mixes counts pairs of numbers that were read and differ; behind the end of a run the cells count as a pair, too.
func mixes(r result) int {
	n := truth(r.Memory[0][0] != r.Memory[0][1])
	for _, l := range r.Values {
		for i := 0; i < len(l); i += 2 {
			n += truth(l[i] != l[i+1])
		}
	}
	return n
}

// P11.8: what is done under Lock is not mixed with what others do under Lock or Share; under Share it is.
func TestLocks(t *testing.T) {
	d := dice(118)
	mixed := 0
	for range 1500 {
		seed := uint64(d.roll(1 << 30))
		for _, read := range []func(rank int) act{lock, share} {
			p := pairs(&d, lock, read)
			if r := runs(t, p, seed); mixes(r) > 0 || len(r.Stuck) > 0 {
				t.Fatal(p, seed, r)
			}
		}
		mixed += mixes(runs(t, pairs(&d, share, share), seed))
	}
	if mixed < 1000 {
		t.Error(mixed)
	}
}

// P11.8: a lock is one of one window; others are accessed at the same time.
func TestLocksOfOtherWindows(t *testing.T) {
	p := of(1, acts(store(0, 1), lock(2), store(0, 2), store(0, 3), unlock(2), store(0, 4)), acts(lock(0), get(0, 0), unlock(0)), nil)
	seen := map[int64]bool{}
	for seed := range uint64(300) {
		seen[runs(t, p, seed).Values[1][0]] = true
	}
	if !seen[2] || !seen[3] {
		t.Error(seen)
	}
}

// P11.9: which processes are stuck does not depend on the seed.
func TestSameStuck(t *testing.T) {
	some := 0
	validPrograms(119, 1500, func(d *dice, p program) {
		first := runs(t, p, 0).Stuck
		for range 6 {
			if l := runs(t, p, uint64(d.roll(1<<30))<<d.roll(34)).Stuck; !slices.Equal(l, first) {
				t.Fatal(p, first, l)
			}
		}
		some += truth(len(first) > 0 && len(first) < len(p.Acts))
	})
	if some < 100 {
		t.Error(some)
	}
}
