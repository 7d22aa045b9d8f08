package window_test

import (
	"slices"
	"sync"
	"testing"

	"armada/api"
	"armada/window"
)

// R3: nil lists are empty ones.
func TestNilLists(t *testing.T) {
	for _, empty := range [][]act{nil, {}} {
		runIs(t, of(1, empty), result{Values: rows(nil), Memory: rows(row(0))})
		racesAre(t, of(1, empty, empty))
	}
	for _, none := range [][][]act{nil, {}} {
		fails(t, of(1, none...), place{}, api.ErrMany)
	}
	for _, group := range [][]int{nil, {}} {
		l := acts(fence, act{Kind: window.Put, Group: group}, act{Kind: window.Fence, Group: group})
		runIs(t, of(1, l), result{Values: rows(nil), Memory: rows(row(0))})
	}
}

// R4: results share no memory with each other, nor do two lists of one result.
func TestResultsAreNew(t *testing.T) {
	p := of(2, acts(fence, put(1, 0, 1), put(1, 0, 2), get(0, 0), get(0, 1), fence, fence), acts(fence, fence, load(1)))
	for range 2 {
		racesAre(t, p, race(0, 1, 0, 2))
		l := races(t, p)
		l[0][0] = place{9, 9}
		r := runs(t, p, 5)
		if !sameRows(r.Values, rows(row(0, 0), row(0))) || !slices.Equal(r.Memory[0], row(0, 0)) || !slices.Equal(r.Stuck, []int{0}) {
			t.Fatal(r)
		}
		r.Stuck[0] = 9
		for _, l := range [][]int64{r.Values[0], r.Values[1], r.Memory[0], r.Memory[1]} {
			for i := range l {
				l[i] += 9
			}
			_ = append(l, 9)
		}
		if !sameRows(r.Values, rows(row(9, 9), row(9))) || !slices.Equal(r.Memory[0], row(9, 9)) || r.Memory[1][1] != 9 {
			t.Fatal(r)
		}
	}
}

// R4: no argument is changed, also not by calls with errors.
func TestArgumentsUnchanged(t *testing.T) {
	d := dice(1101)
	for range 2000 {
		p := anyProgram(&d)
		before := copied(p)
		window.Check(p)
		window.Before(p, place{}, place{Rank: 1})
		window.Races(p)
		window.Run(p, 3)
		if !sameProgram(p, before) {
			t.Fatal(p, before)
		}
	}
}

// anyNumber returns a number that is out of range in many ways, or in range.
func anyNumber(d *dice) int {
	return pick(d, lowest, -1000, -2, -1, 0, 0, 0, 1, 1, 1, 2, 2, 3, 9, 63, 64, 65, 1<<31, 1<<62, highest)
}

// anyNumbers returns a few of such numbers.
func anyNumbers(d *dice) []int {
	var l []int
	for range d.roll(4) {
		l = append(l, anyNumber(d))
	}
	return l
}

// anything returns a program of actions with any numbers, hardly ever a valid one.
func anything(d *dice) program {
	p := program{Cells: anyNumber(d)}
	for range d.roll(4) {
		var l []act
		for range d.roll(5) {
			a := act{Kind: d.roll(19) - 1, Rank: anyNumber(d), At: anyNumber(d), Op: anyNumber(d), Value: anyValue(d), Other: anyValue(d), Group: anyNumbers(d)}
			l = append(l, pick(d, a, a, load(0), fence, complete, wait, act{Kind: anyNumber(d)}))
		}
		p.Acts = append(p.Acts, l)
	}
	return p
}

// P0: any arguments; with an error there is nothing else.
func TestAnyArguments(t *testing.T) {
	d := dice(1102)
	good := 0
	for range 60000 {
		p := anything(&d)
		at, e := window.Check(p)
		x, y := place{anyNumber(&d), anyNumber(&d)}, place{anyNumber(&d), anyNumber(&d)}
		is, e1 := window.Before(p, x, y)
		l, e2 := window.Races(p)
		r, e3 := window.Run(p, uint64(d))
		if e1 != e && (e != api.OK || e1 != api.ErrRange) || e2 != e || e3 != e {
			t.Fatal(p, x, y, e, e1, e2, e3)
		}
		if e == api.OK && at != (place{}) || e1 != api.OK && is || e2 != api.OK && len(l) > 0 || e3 != api.OK && !isZero(r) {
			t.Fatal(p, at, is, l, r)
		}
		good += truth(e == api.OK)
	}
	if good < 1000 {
		t.Error(good)
	}
}

// largest returns a program of 64 processes with 100 actions each, of some that are repeated behind others.
func largest(f func(rank int) (first, again, behind []act)) program {
	p := of(64, make([][]act, 64)...)
	for rank := range p.Acts {
		first, again, behind := f(rank)
		l := slices.Clone(first)
		for len(l)+len(again)+len(behind) <= 100 {
			l = append(l, again...)
		}
		p.Acts[rank] = append(l, behind...)
	}
	return p
}

// others returns all processes but one.
func others(rank int) []int {
	var l []int
	for other := range 64 {
		if other != rank {
			l = append(l, other)
		}
	}
	return l
}

// P0: the largest programs: many accesses, many fences, many groups, and groups in which all wait in vain.
func TestLargestPrograms(t *testing.T) {
	updates := largest(func(rank int) (first, again, behind []act) {
		return acts(fence), acts(acc(0, 0, api.OpSum, 1)), acts(fence)
	})
	racesAre(t, updates)
	if r := runs(t, updates, 1); r.Memory[0][0] != 64*98 || len(r.Stuck) > 0 {
		t.Error(r)
	}
	puts := largest(func(rank int) (first, again, behind []act) {
		return acts(fence), acts(put(rank, 0, 1), get(rank, 1), store(2, 1), swap(rank, 3, 1, 0)), acts(fence)
	})
	if l := races(t, puts); len(l) != 64*(24*23/2) {
		t.Error(len(l))
	}
	fences := largest(func(rank int) (first, again, behind []act) { return nil, acts(fence, load(0)), nil })
	if !comes(t, fences, place{63, 96}, place{0, 99}) || comes(t, fences, place{63, 98}, place{0, 98}) || len(runs(t, fences, 1).Stuck) > 0 {
		t.Error("fences")
	}
	groups := largest(func(rank int) (first, again, behind []act) {
		return nil, acts(post(others(rank)...), start(others(rank)...), complete, wait), nil
	})
	if !comes(t, groups, place{63, 96}, place{0, 98}) || comes(t, groups, place{63, 97}, place{0, 98}) || len(runs(t, groups, 1).Stuck) > 0 {
		t.Error("groups")
	}
	circles := largest(func(rank int) (first, again, behind []act) {
		return nil, acts(start(others(rank)...), complete, post(others(rank)...), wait), nil
	})
	if !comes(t, circles, place{5, 98}, place{5, 98}) || comes(t, circles, place{5, 0}, place{5, 0}) || len(runs(t, circles, 1).Stuck) != 64 {
		t.Error("circles")
	}
}

// A call depends on its arguments alone, also while other calls are on their way.
func TestCallsAtOnce(t *testing.T) {
	d := dice(1103)
	p := goodProgram(&d)
	for len(races(t, p)) == 0 {
		p = goodProgram(&d)
	}
	first, l := runs(t, p, 7), races(t, p)
	var all sync.WaitGroup
	for range 8 {
		all.Go(func() {
			for range 50 {
				r, _ := window.Run(p, 7)
				k, _ := window.Races(p)
				if !sameResult(r, first) || !slices.Equal(k, l) {
					t.Error(r, k)
				}
			}
		})
	}
	all.Wait()
}
