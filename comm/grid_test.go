package comm_test

import (
	"fmt"
	"math/big"
	"slices"
	"testing"

	"armada/api"
	"armada/comm"
)

func product(l []int) int {
	n := 1
	for _, x := range l {
		n *= x
	}
	return n
}

// allSizes returns the sizes of all valid grids.
func allSizes() [][]int {
	var out [][]int
	var extend func(sizes []int, room int)
	extend = func(sizes []int, room int) {
		if len(sizes) > 0 {
			out = append(out, slices.Clone(sizes))
		}
		if len(sizes) == 4 {
			return
		}
		for size := 1; size <= room; size++ {
			extend(append(sizes, size), room/size)
		}
	}
	extend(nil, 64)
	return out
}

// grid returns a valid grid.
func (d *dice) grid() comm.Grid {
	for {
		sizes := make([]int, 1+d.roll(4))
		for i := range sizes {
			sizes[i] = 1 + d.roll(6)
		}
		if product(sizes) <= 64 {
			return comm.Grid{Sizes: sizes, Wrap: d.bools(len(sizes))}
		}
	}
}

// places returns the coordinates of all ranks of a grid, in order.
func places(sizes []int) [][]int {
	out := [][]int{nil}
	for _, size := range sizes {
		var longer [][]int
		for _, at := range out {
			for c := range size {
				longer = append(longer, append(slices.Clone(at), c))
			}
		}
		out = longer
	}
	return out
}

// rankModel returns the rank at the coordinates at, with by added to the one of dim, in a valid grid.
func rankModel(g comm.Grid, at []int, dim int, by *big.Int) int {
	found := make([]int, len(at))
	for k, c := range at {
		x, size := big.NewInt(int64(c)), big.NewInt(int64(g.Sizes[k]))
		if k == dim {
			x.Add(x, by)
		}
		if g.Wrap[k] {
			x.Mod(x, size) // from 0 on, also for negative numbers
		}
		if x.Sign() < 0 || x.Cmp(size) >= 0 {
			return none
		}
		found[k] = int(x.Int64())
	}
	return slices.IndexFunc(places(g.Sizes), func(l []int) bool { return slices.Equal(l, found) })
}

// example is the grid of the chapter's examples.
func example() comm.Grid {
	return comm.Grid{Sizes: list(3, 4), Wrap: []bool{false, true}}
}

// P2.9.
func TestFactor(t *testing.T) {
	for _, x := range []struct {
		n, dims int
		want    []int
	}{
		{12, 2, list(4, 3)}, {12, 3, list(3, 2, 2)}, {7, 2, list(7, 1)}, {64, 4, list(4, 4, 2, 2)},
		{1, 1, list(1)}, {1, 4, list(1, 1, 1, 1)}, {64, 1, list(64)}, {64, 3, list(4, 4, 4)}, {64, 2, list(8, 8)},
		{60, 3, list(5, 4, 3)}, {48, 4, list(4, 3, 2, 2)}, {36, 3, list(4, 3, 3)}, {61, 4, list(61, 1, 1, 1)}, {16, 3, list(4, 2, 2)},
	} {
		l, e := comm.Factor(x.n, x.dims)
		isList(t, fmt.Sprint("Factor of ", x.n, x.dims), l, e, x.want...)
	}
	for _, n := range list(lowest, -1, 0, 65, highest, 1, 64) {
		for _, dims := range list(lowest, -1, 0, 5, highest) {
			l, e := comm.Factor(n, dims)
			isError(t, fmt.Sprint("Factor of ", n, dims), l, e, api.ErrRange)
		}
	}
	for _, n := range list(lowest, -1, 0, 65, highest) {
		for dims := range 6 {
			l, e := comm.Factor(n, dims)
			isError(t, fmt.Sprint("Factor of ", n, dims), l, e, api.ErrRange)
		}
	}
}

// P2.9: of all lists with the product, Factor returns the least one.
func TestFactorIsLeast(t *testing.T) {
	best := map[[2]int][]int{}
	for _, sizes := range allSizes() {
		fall := slices.IsSortedFunc(sizes, func(a, b int) int { return b - a })
		key := [2]int{product(sizes), len(sizes)}
		if old, ok := best[key]; fall && (!ok || slices.Compare(sizes, old) < 0) {
			best[key] = sizes
		}
	}
	for n := 1; n <= 64; n++ {
		for dims := 1; dims <= 4; dims++ {
			l, e := comm.Factor(n, dims)
			isList(t, fmt.Sprint("Factor of ", n, dims), l, e, best[[2]int{n, dims}]...)
		}
	}
}

// P2.10: the grids that are valid, and those that are not. That comes before all other errors.
func TestGrids(t *testing.T) {
	for _, sizes := range [][]int{{1}, {64}, {1, 1, 1, 1}, {4, 4, 2, 2}, {1, 1, 1, 64}, {64, 1}, {63}, {2, 31}, {9, 7}, {3, 21}} {
		if _, e := comm.Coords(comm.Grid{Sizes: sizes, Wrap: make([]bool, len(sizes))}, 0); e != api.OK {
			t.Error(sizes, e)
		}
	}
	for _, g := range []comm.Grid{
		{},
		{Sizes: []int{}, Wrap: []bool{}},
		{Wrap: []bool{true}},
		{Sizes: list(3)},
		{Sizes: list(3), Wrap: []bool{true, true}},
		{Sizes: list(3, 3), Wrap: []bool{true}},
		{Sizes: list(0), Wrap: []bool{true}},
		{Sizes: list(-1), Wrap: []bool{true}},
		{Sizes: list(-2, -2), Wrap: []bool{true, true}},
		{Sizes: list(65), Wrap: []bool{true}},
		{Sizes: list(8, 9), Wrap: []bool{true, true}},
		{Sizes: list(65, 0), Wrap: []bool{true, true}},
		{Sizes: list(1, 2, 3, 11), Wrap: make([]bool, 4)},
		{Sizes: list(64, 2), Wrap: make([]bool, 2)},
		{Sizes: list(1, 1, 1, 1, 1), Wrap: make([]bool, 5)},
		{Sizes: list(lowest), Wrap: []bool{false}},
		{Sizes: list(highest), Wrap: []bool{false}},
		{Sizes: list(1<<32, 1<<32), Wrap: make([]bool, 2)},
		{Sizes: list(2, 1<<62, 2, 1), Wrap: make([]bool, 4)},
		{Sizes: list(1<<16, 1<<16, 1<<16, 1<<16), Wrap: make([]bool, 4)},
		{Sizes: list(3, 1<<63/3, 3), Wrap: make([]bool, 3)},
	} {
		for _, n := range list(0, -1, 99) {
			r, e := comm.Rank(g, times(len(g.Sizes), n))
			isNumber(t, "Rank", r, e, 0, api.ErrArg)
			r, e = comm.Rank(g, list(n, n, n))
			isNumber(t, "Rank", r, e, 0, api.ErrArg)
			l, e := comm.Coords(g, n)
			isError(t, "Coords", l, e, api.ErrArg)
			before, after, e := comm.Shift(g, n, n, 1)
			isError(t, "Shift", l, e, api.ErrArg)
			if before != 0 || after != 0 {
				t.Error(g, before, after)
			}
			l, e = comm.Neighbors(g, n)
			isError(t, "Neighbors", l, e, api.ErrArg)
		}
		for n := range 6 {
			sub, parts, ranks, e := comm.Sub(g, make([]bool, n))
			if len(sub.Sizes)+len(sub.Wrap)+len(parts)+len(ranks) != 0 || e != api.ErrArg {
				t.Errorf("Sub of %v: %v %v %v %v", g, sub, parts, ranks, e)
			}
		}
	}
}

// P2.10: Rank.
func TestRank(t *testing.T) {
	g := example()
	for _, x := range []struct {
		at   []int
		want int
		e    api.Errno
	}{
		{list(2, -1), 11, api.OK},
		{list(3, 0), 0, api.ErrRange},
		{list(-1, 0), 0, api.ErrRange},
		{list(0, 0), 0, api.OK},
		{list(1, 2), 6, api.OK},
		{list(1, 4), 4, api.OK},
		{list(1, 7), 7, api.OK},
		{list(1, -4), 4, api.OK},
		{list(1, -5), 7, api.OK},
		{list(2, highest), 11, api.OK},
		{list(2, lowest), 8, api.OK},
		{list(highest, 0), 0, api.ErrRange},
		{list(lowest, 0), 0, api.ErrRange},
		{list(1), 0, api.ErrShape},
		{list(9), 0, api.ErrShape},
		{nil, 0, api.ErrShape},
		{list(1, 1, 0), 0, api.ErrShape},
	} {
		r, e := comm.Rank(g, x.at)
		isNumber(t, fmt.Sprint("Rank at ", x.at), r, e, x.want, x.e)
	}
}

// P2.10: Coords.
func TestCoords(t *testing.T) {
	l, e := comm.Coords(example(), 6)
	isList(t, "Coords", l, e, 1, 2)
	for _, r := range list(-1, 12, none, lowest, highest) {
		l, e := comm.Coords(example(), r)
		isError(t, "Coords", l, e, api.ErrRank)
		l, e = comm.Neighbors(example(), r)
		isError(t, "Neighbors", l, e, api.ErrRank)
		for _, dim := range list(0, 1, 2, -1) {
			before, after, e := comm.Shift(example(), r, dim, 1)
			if before != 0 || after != 0 || e != api.ErrRank {
				t.Error(r, dim, before, after, e)
			}
		}
	}
	for _, sizes := range allSizes() {
		g := comm.Grid{Sizes: sizes, Wrap: make([]bool, len(sizes))}
		for r, at := range places(sizes) {
			l, e := comm.Coords(g, r)
			isResult(t, fmt.Sprint("Coords of ", g, r), l, e, at, api.OK)
		}
	}
}

// P2.10: Shift.
func TestShift(t *testing.T) {
	ring := comm.Grid{Sizes: list(5), Wrap: []bool{true}}
	row := comm.Grid{Sizes: list(5), Wrap: []bool{false}}
	for _, x := range []struct {
		g                                comm.Grid
		rank, dim, by, wantBack, wantFar int
	}{
		{example(), 5, 1, 3, 6, 4},
		{example(), 5, 0, 2, none, none},
		{example(), 5, 0, 1, 1, 9},
		{example(), 5, 0, -1, 9, 1},
		{example(), 1, 0, 1, none, 5},
		{example(), 9, 0, 1, 5, none},
		{example(), 5, 0, 0, 5, 5},
		{example(), 5, 1, 0, 5, 5},
		{example(), 5, 1, 4, 5, 5},
		{ring, 1, 0, highest, 4, 3},
		{ring, 1, 0, lowest, 4, 3},
		{ring, 4, 0, lowest + 1, 1, 2},
		{row, 0, 0, 4, none, 4},
		{row, 4, 0, -4, none, 0},
		{row, 4, 0, 4, 0, none},
		{row, 0, 0, 5, none, none},
		{row, 0, 0, -5, none, none},
		{row, 4, 0, -5, none, none},
		{row, 4, 0, 5, none, none},
		{row, 2, 0, highest, none, none},
		{row, 2, 0, lowest, none, none},
		{row, 0, 0, lowest, none, none},
	} {
		before, after, e := comm.Shift(x.g, x.rank, x.dim, x.by)
		if before != x.wantBack || after != x.wantFar || e != api.OK {
			t.Errorf("%v: %d along %d by %d: %d and %d %v, not %d and %d", x.g, x.rank, x.dim, x.by, before, after, e, x.wantBack, x.wantFar)
		}
	}
	for _, dim := range list(-1, 2, 3, lowest, highest) {
		before, after, e := comm.Shift(example(), 0, dim, 1)
		if before != 0 || after != 0 || e != api.ErrRange {
			t.Error(dim, before, after, e)
		}
	}
}

// P2.10: Rank and Shift of random grids are what the words say, with numbers that never wrap around.
func TestRandomShifts(t *testing.T) {
	d := dice(12)
	odd := list(lowest, lowest+1, lowest+2, -1<<32, -65, 65, 1<<32, highest-2, highest-1, highest)
	number := func() int {
		if d.roll(4) == 0 {
			return odd[d.roll(len(odd))]
		}
		return d.roll(19) - 9
	}
	for range 20000 {
		g := d.grid()
		at := make([]int, len(g.Sizes))
		for k := range at {
			at[k] = number()
			if d.roll(3) > 0 {
				at[k] = d.roll(g.Sizes[k])
			}
		}
		want, f := rankModel(g, at, -1, nil), api.OK
		if want == none {
			want, f = 0, api.ErrRange
		}
		r, e := comm.Rank(g, at)
		if r != want || e != f {
			t.Fatalf("%v at %v: %d %v, not %d %v", g, at, r, e, want, f)
		}
		rank, dim, by := d.roll(product(g.Sizes)), d.roll(len(g.Sizes)), number()
		step := big.NewInt(int64(by))
		from := places(g.Sizes)[rank]
		far := rankModel(g, from, dim, step)
		near := rankModel(g, from, dim, step.Neg(step))
		before, after, e := comm.Shift(g, rank, dim, by)
		if before != near || after != far || e != api.OK {
			t.Fatalf("%v: %d along %d by %d: %d and %d %v, not %d and %d", g, rank, dim, by, before, after, e, near, far)
		}
	}
}

// P2.10: Neighbors.
func TestNeighbors(t *testing.T) {
	l, e := comm.Neighbors(example(), 4)
	isList(t, "Neighbors", l, e, 0, 8, 7, 5)
	l, e = comm.Neighbors(example(), 0)
	isList(t, "Neighbors", l, e, none, 4, 3, 1)
	l, e = comm.Neighbors(comm.Grid{Sizes: list(1, 2, 1), Wrap: []bool{true, true, false}}, 1)
	isList(t, "Neighbors", l, e, 1, 1, 0, 0, none, none)
	d := dice(13)
	for range 1000 {
		g := d.grid()
		r := d.roll(product(g.Sizes))
		var want []int
		for dim := range g.Sizes {
			before, after, _ := comm.Shift(g, r, dim, 1)
			want = append(want, before, after)
		}
		l, e := comm.Neighbors(g, r)
		isResult(t, fmt.Sprint("Neighbors of ", g, r), l, e, want, api.OK)
	}
}

// isSub fails unless Sub returned a grid, parts and ranks.
func isSub(t *testing.T, g comm.Grid, keep []bool, want comm.Grid, wantParts, wantRanks []int) {
	t.Helper()
	sub, parts, ranks, e := comm.Sub(g, keep)
	if e != api.OK || !slices.Equal(sub.Sizes, want.Sizes) || !slices.Equal(sub.Wrap, want.Wrap) {
		t.Fatalf("%v of %v: %v %v, not %v", keep, g, sub, e, want)
	}
	if !slices.Equal(parts, wantParts) || !slices.Equal(ranks, wantRanks) {
		t.Fatalf("%v of %v: %v and %v, not %v and %v", keep, g, parts, ranks, wantParts, wantRanks)
	}
}

// P2.10: Sub.
func TestSub(t *testing.T) {
	g := example()
	rows, columns := list(0, 0, 0, 0, 1, 1, 1, 1, 2, 2, 2, 2), list(0, 1, 2, 3, 0, 1, 2, 3, 0, 1, 2, 3)
	isSub(t, g, []bool{false, true}, comm.Grid{Sizes: list(4), Wrap: []bool{true}}, rows, columns)
	isSub(t, g, []bool{true, false}, comm.Grid{Sizes: list(3), Wrap: []bool{false}}, columns, rows)
	isSub(t, g, []bool{true, true}, g, make([]int, 12), upTo(12))
	isSub(t, g, []bool{false, false}, comm.Grid{Sizes: list(1), Wrap: []bool{false}}, upTo(12), make([]int, 12))
	ring := comm.Grid{Sizes: list(2), Wrap: []bool{true}}
	isSub(t, ring, []bool{false}, comm.Grid{Sizes: list(1), Wrap: []bool{false}}, list(0, 1), list(0, 0))
	cube := comm.Grid{Sizes: list(2, 2, 2), Wrap: []bool{true, false, false}}
	isSub(t, cube, []bool{true, false, true}, comm.Grid{Sizes: list(2, 2), Wrap: []bool{true, false}}, list(0, 0, 1, 1, 0, 0, 1, 1), list(0, 1, 0, 1, 2, 3, 2, 3))
	for _, n := range list(0, 1, 3, 5) {
		sub, parts, ranks, e := comm.Sub(g, make([]bool, n))
		if len(sub.Sizes)+len(sub.Wrap)+len(parts)+len(ranks) != 0 || e != api.ErrShape {
			t.Error(n, sub, parts, ranks, e)
		}
	}
}

// P2.10: the parts and ranks of random grids are what the words say.
func TestRandomSubs(t *testing.T) {
	d := dice(14)
	for range 2000 {
		g := d.grid()
		keep := d.bools(len(g.Sizes))
		var kept, left comm.Grid
		for k, size := range g.Sizes {
			to := &left
			if keep[k] {
				to = &kept
			}
			to.Sizes, to.Wrap = append(to.Sizes, size), append(to.Wrap, g.Wrap[k])
		}
		var parts, ranks []int
		for _, at := range places(g.Sizes) {
			var here, there []int
			for k, c := range at {
				if keep[k] {
					here = append(here, c)
				} else {
					there = append(there, c)
				}
			}
			parts, ranks = append(parts, rankModel(left, there, -1, nil)), append(ranks, rankModel(kept, here, -1, nil))
		}
		if len(kept.Sizes) == 0 {
			kept = comm.Grid{Sizes: list(1), Wrap: []bool{false}}
		}
		isSub(t, g, keep, kept, parts, ranks)
	}
}
