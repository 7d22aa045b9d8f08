package window_test

import (
	"slices"
	"testing"

	"armada/api"
	"armada/window"
)

// alone returns a program of one process with two cells, each of whose remote accesses takes effect before the next action.
func alone(l ...act) program {
	out := acts(lock(0))
	for _, a := range l {
		out = append(out, a, flush(0))
	}
	return of(2, append(out, unlock(0)))
}

// P11.4: what each access does to its cell, and what it returns.
func TestEffects(t *testing.T) {
	for _, x := range []struct {
		p      program
		values []int64
		cells  []int64
	}{
		{alone(put(0, 1, 5), get(0, 1), get(0, 0)), row(5, 0), row(0, 5)},
		{alone(store(1, 5), load(1), load(0), put(0, 0, 6), load(0)), row(5, 0, 6), row(6, 5)},
		{alone(put(0, 0, most), acc(0, 0, api.OpSum, 1)), nil, row(least, 0)},
		{alone(put(0, 0, -3), fetch(0, 0, api.OpProd, 5)), row(-3), row(-15, 0)},
		{alone(put(0, 0, 7), acc(0, 0, api.OpMin, -2), fetch(0, 0, api.OpMax, 4), acc(0, 0, api.OpMax, 3)), row(-2), row(4, 0)},
		{alone(put(0, 0, 12), fetch(0, 0, api.OpAnd, 10), fetch(0, 0, api.OpOr, 5), acc(0, 0, api.OpXor, 1)), row(12, 8), row(12, 0)},
		{alone(fetch(0, 0, api.OpAny, -4), fetch(0, 0, api.OpAll, 9), fetch(0, 0, api.OpAll, 0)), row(0, 1, 1), row(0, 0)},
		{alone(swap(0, 1, 8, 0), swap(0, 1, 9, 0), get(0, 1), swap(0, 1, 9, 8)), row(0, 8, 8, 8), row(0, 9)},
		{alone(swap(0, 0, 0, 1), swap(0, 0, least, 0)), row(0, 0), row(least, 0)},
	} {
		runIs(t, x.p, result{Values: rows(x.values), Memory: rows(x.cells)})
	}
}

// P11.4: a remote access is to the process Rank, a local one to the process itself.
func TestTargets(t *testing.T) {
	p := of(3, acts(fence, put(1, 2, 5), put(0, 1, 6), acc(2, 0, api.OpSum, 7), fence), acts(fence, act{Kind: window.Store, Rank: 2, At: 1, Value: 8}, fence), acts(fence, fence, act{Kind: window.Load, Rank: 1, At: 0}))
	runIs(t, p, result{Values: rows(nil, nil, row(7)), Memory: rows(row(0, 6, 0), row(0, 8, 5), row(7, 0, 0))})
}

// P11.4: the values are in the order of the actions, in whichever order the accesses take effect.
func TestOrderOfValues(t *testing.T) {
	p := of(3, acts(store(0, 10), store(1, 20), store(2, 30), lock(0), get(0, 2), get(0, 0), load(1), fetch(0, 1, api.OpSum, 0), unlock(0)))
	for seed := range uint64(40) {
		runIs(t, p, result{Values: rows(row(30, 10, 20, 20)), Memory: rows(row(10, 20, 30))}, seed)
	}
}

// P11.4: what is drawn says which one of two accesses takes effect first. The next action is before the accesses that are pending.
func TestDraws(t *testing.T) {
	p := of(1, acts(lock(0), put(0, 0, 1), put(0, 0, 2), unlock(0)))
	seen := [3]int{}
	for seed := range uint64(200) {
		g := generator(seed * 0x9e3779b97f4a7c15)
		first := uint64(g)
		g.draw(1)
		g.draw(1)
		want := int64(2)
		if nextFirst := g.draw(2) == 0; nextFirst && g.draw(2) == 1 {
			want = 1
		}
		seen[want]++
		if got := runs(t, p, first).Memory[0][0]; got != want {
			t.Fatal(first, got, want)
		}
	}
	if seen[1] < 20 || seen[2] < 20 {
		t.Error(seen)
	}
}

// P11.4: the processes are candidates by their numbers, and so are the accesses that are pending.
func TestOrderOfCandidates(t *testing.T) {
	locks := of(1, acts(lock(2), put(2, 0, 1), unlock(2)), acts(lock(2), put(2, 0, 2), unlock(2)), nil)
	shares := of(1, acts(share(2), put(2, 0, 1), unlock(2)), acts(share(2), put(2, 0, 2), unlock(2)), nil)
	for seed := range uint64(200) {
		g := generator(seed)
		want := int64(2 - g.draw(2))
		if got := runs(t, locks, seed).Memory[2][0]; got != want {
			t.Fatal(seed, got, want)
		}
		// If both share, and the next actions come first, the accesses are left: first that of 0, then that of 1.
		switch picks := drawn(seed, 2, 2, 2, 2, 2); {
		case slices.Equal(picks[:4], []int{0, 0, 0, 0}):
			want = int64(2 - picks[4])
		case slices.Equal(picks[:3], []int{0, 0, 1}):
			want = 2
		default:
			continue
		}
		if got := runs(t, shares, seed).Memory[2][0]; got != want {
			t.Fatal(seed, got, want)
		}
	}
}

// drawn returns the numbers that are drawn below some others.
func drawn(seed uint64, below ...int) []int {
	g := generator(seed)
	var l []int
	for _, n := range below {
		l = append(l, g.draw(n))
	}
	return l
}

// endsOf returns which values the cell 0 of a process has at the end of runs with many seeds.
func endsOf(t *testing.T, p program, rank int) []int64 {
	t.Helper()
	var l []int64
	for seed := range uint64(300) {
		if x := runs(t, p, seed).Memory[rank][0]; !slices.Contains(l, x) {
			l = append(l, x)
		}
	}
	slices.Sort(l)
	return l
}

// P11.4: an update waits for earlier updates of the same process to the same cell; all else takes effect in any order.
func TestOrderOfEffects(t *testing.T) {
	add, double := acc(1, 0, api.OpSum, 5), acc(1, 0, api.OpProd, 2)
	for _, x := range []struct {
		l    []act
		want []int64
	}{
		{acts(add, double), row(10)},
		{acts(double, add), row(5)},
		{acts(add, swap(1, 0, 3, 5), fetch(1, 0, api.OpProd, 2)), row(6)},
		{acts(put(1, 0, 1), add), row(1, 6)},
		{acts(add, put(1, 0, 1)), row(1, 6)},
		{acts(put(1, 0, 1), put(1, 0, 2), put(1, 0, 3)), row(1, 2, 3)},
		{acts(add, put(1, 0, 1), double), row(1, 2, 12)},
	} {
		l := slices.Concat(acts(fence), x.l, acts(fence))
		if got := endsOf(t, of(2, l, acts(fence, fence)), 1); !slices.Equal(got, x.want) {
			t.Error(x.l, got, x.want)
		}
	}
	p := of(2, acts(fence, acc(1, 1, api.OpSum, 5), add, fence), acts(fence, fence))
	runIs(t, p, result{Values: rows(nil, nil), Memory: rows(row(0, 0), row(5, 5))})
}

// P11.4: updates of different processes do not wait for each other, nor do those to different cells, or to the same cells of different processes.
func TestUpdatesThatDoNotWait(t *testing.T) {
	p := of(1, acts(fence, acc(2, 0, api.OpSum, 5), fence), acts(fence, acc(2, 0, api.OpXor, 3), fence), acts(fence, fence))
	if got := endsOf(t, p, 2); !slices.Equal(got, row(6, 8)) {
		t.Error(got)
	}
	add := func(rank, at int) act { return acc(rank, at, api.OpSum, 1) }
	overtakes(t, of(2, acts(fence, add(1, 0), add(1, 1), fence), acts(fence, load(1), load(0), fence)))
	overtakes(t, of(1, acts(fence, add(2, 0), add(1, 0), fence), acts(fence, load(0), get(2, 0), fence), acts(fence, fence)))
}

// overtakes says that 1 can see the second of two updates, and then not yet the first one.
func overtakes(t *testing.T, p program) {
	t.Helper()
	for seed := range uint64(1000) {
		if slices.Equal(runs(t, p, seed).Values[1], row(1, 0)) {
			return
		}
	}
	t.Error(p)
}

// P11.4: a local access takes effect when it is done, whatever is pending.
func TestLocalEffects(t *testing.T) {
	p := of(1, acts(fence, put(0, 0, 1), load(0), store(0, 2), fence))
	var seen []int64
	for seed := range uint64(200) {
		r := runs(t, p, seed)
		if x := r.Values[0][0]*10 + r.Memory[0][0]; !slices.Contains(seen, x) {
			seen = append(seen, x)
		}
	}
	slices.Sort(seen)
	if !slices.Equal(seen, row(1, 2, 12)) {
		t.Error(seen)
	}
}

// P11.4: which processes are stuck.
func TestStuck(t *testing.T) {
	for _, x := range []struct {
		p     program
		stuck []int
	}{
		{of(1, acts(fence), acts(fence)), nil},
		{of(1, acts(fence), nil), []int{0}},
		{of(1, acts(fence, fence), acts(fence), acts(fence, fence)), []int{0, 2}},
		{of(1, acts(start(1), complete), nil), []int{0}},
		{of(1, acts(post(1), wait), nil), []int{0}},
		{of(1, acts(start(1), complete), acts(post(0), wait)), nil},
		{of(1, acts(start(1), complete, start(1), complete), acts(post(0), wait)), []int{0}},
		{of(1, acts(start(1), complete), acts(post(0), wait, post(0), wait)), []int{1}},
		{of(1, acts(start(1, 2), complete), acts(post(0), wait), nil), []int{0, 1}},
		{of(1, acts(start(1), complete), acts(post(2), wait), acts(start(1), complete)), []int{0}},
		{of(1, acts(start(1), complete, post(1), wait), acts(start(0), complete, post(0), wait)), []int{0, 1}},
		{of(1, acts(post(1), start(1), complete, wait), acts(post(0), start(0), complete, wait)), nil},
		{of(1, acts(post(1), start(1), wait, complete), acts(post(0), start(0), wait, complete)), []int{0, 1}},
		{of(1, acts(post(1), wait, fence), acts(fence, start(0), complete)), []int{0, 1}},
		{of(1, acts(lock(1), unlock(1), lock(1), unlock(1), fence), acts(share(1), unlock(1)), acts(lock(1), unlock(1))), []int{0}},
		{of(1, acts(load(0)), acts(fence)), []int{1}},
	} {
		for seed := range uint64(20) {
			if got := runs(t, x.p, seed).Stuck; !slices.Equal(got, x.stuck) {
				t.Error(x.p, seed, got, x.stuck)
			}
		}
	}
}

// P11.4: what was done before a process got stuck has taken effect; what is behind is not done.
func TestResultOfStuck(t *testing.T) {
	runIs(t, of(1, acts(lock(1), fetch(1, 0, api.OpSum, 4), unlock(1), store(0, 9), fence, store(0, 10), load(0)), nil),
		result{Values: rows(row(0), nil), Memory: rows(row(9), row(4)), Stuck: []int{0}})
	runIs(t, of(1, acts(fence, fetch(0, 0, api.OpSum, 3), acc(1, 0, api.OpSum, 4), fence, load(0)), acts(fence)),
		result{Values: rows(row(0), nil), Memory: rows(row(3), row(4)), Stuck: []int{0}})
}
