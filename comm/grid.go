package comm

import (
	"slices"

	"armada/api"
)

// maxDims is how many dimensions a grid has at most.
const maxDims = 4

// Grid is a grid of processes: its sizes, and which dimensions are closed to rings.
type Grid struct {
	Sizes []int
	Wrap  []bool
}

// Factor returns sizes of a grid for a number of processes, as equal as possible.
func Factor(n, dims int) ([]int, api.Errno) {
	if n < 1 || n > api.MaxRanks || dims < 1 || dims > maxDims {
		return nil, api.ErrRange
	}
	sizes, _ := factors(n, dims, n)
	return sizes, api.OK
}

// factors returns the least list of sizes with the product n, of which none is above most or above the one before it, or false if there is none.
func factors(n, dims, most int) ([]int, bool) {
	if dims == 0 {
		return nil, n == 1
	}
	for size := 1; size <= most; size++ {
		if n%size != 0 {
			continue
		}
		if rest, ok := factors(n/size, dims-1, size); ok {
			return append([]int{size}, rest...), true
		}
	}
	return nil, false
}

// count returns how many ranks a grid has, or 0 if it is not valid.
func (g Grid) count() int {
	dims := len(g.Sizes)
	if dims < 1 || dims > maxDims || len(g.Wrap) != dims {
		return 0
	}
	n := 1
	for _, size := range g.Sizes {
		if size < 1 || size > api.MaxRanks/n {
			return 0
		}
		n *= size
	}
	return n
}

// check checks a grid, and a rank of it.
func (g Grid) check(rank int) api.Errno {
	n := g.count()
	switch {
	case n == 0:
		return api.ErrArg
	case rank < 0 || rank >= n:
		return api.ErrRank
	}
	return api.OK
}

// rank returns the rank at coordinates of a grid, or NoRank if there is none. Without dimensions it is 0.
func (g Grid) rank(at []int) int {
	rank := 0
	for k, size := range g.Sizes {
		c := at[k]
		if g.Wrap[k] {
			c = modulo(c, size)
		}
		if c < 0 || c >= size {
			return api.NoRank
		}
		rank = rank*size + c
	}
	return rank
}

func modulo(a, n int) int { return (a%n + n) % n }

// coords returns the coordinates of a rank of a grid.
func (g Grid) coords(rank int) []int {
	at := make([]int, len(g.Sizes))
	for k, size := range slices.Backward(g.Sizes) {
		at[k] = rank % size
		rank /= size
	}
	return at
}

// shift returns the ranks before and after a rank along a dimension.
func (g Grid) shift(rank, dim, by int) (int, int) {
	by = g.nearStep(dim, by)
	before, after := g.coords(rank), g.coords(rank)
	before[dim] -= by
	after[dim] += by
	return g.rank(before), g.rank(after)
}

// nearStep returns a step that leads from each rank where by leads, in both directions, but which is so short that no coordinate wraps around.
func (g Grid) nearStep(dim, by int) int {
	size := g.Sizes[dim]
	if g.Wrap[dim] {
		return modulo(by, size)
	}
	return min(max(by, -size), size)
}

// only returns the grid of some of the dimensions, perhaps of none.
func (g Grid) only(wanted func(dim int) bool) Grid {
	return Grid{choose(g.Sizes, wanted), choose(g.Wrap, wanted)}
}

// Rank returns the rank at coordinates of a grid.
func Rank(g Grid, at []int) (int, api.Errno) {
	switch {
	case g.count() == 0:
		return 0, api.ErrArg
	case len(at) != len(g.Sizes):
		return 0, api.ErrShape
	}
	rank := g.rank(at)
	if rank == api.NoRank {
		return 0, api.ErrRange
	}
	return rank, api.OK
}

// Coords returns the coordinates of a rank of a grid.
func Coords(g Grid, rank int) ([]int, api.Errno) {
	if e := g.check(rank); e != api.OK {
		return nil, e
	}
	return g.coords(rank), api.OK
}

// Shift returns the ranks before and after a rank along a dimension, some steps away.
func Shift(g Grid, rank, dim, by int) (int, int, api.Errno) {
	if e := g.check(rank); e != api.OK {
		return 0, 0, e
	}
	if dim < 0 || dim >= len(g.Sizes) {
		return 0, 0, api.ErrRange
	}
	before, after := g.shift(rank, dim, by)
	return before, after, api.OK
}

// Neighbors returns the neighbors of a rank: along each dimension the one before it and the one after it.
func Neighbors(g Grid, rank int) ([]int, api.Errno) {
	if e := g.check(rank); e != api.OK {
		return nil, e
	}
	var out []int
	for dim := range g.Sizes {
		before, after := g.shift(rank, dim, 1)
		out = append(out, before, after)
	}
	return out, api.OK
}

// Sub returns the grid of some of the dimensions, and for each rank the number of its part, and its rank there.
func Sub(g Grid, keep []bool) (Grid, []int, []int, api.Errno) {
	n := g.count()
	switch {
	case n == 0:
		return Grid{}, nil, nil, api.ErrArg
	case len(keep) != len(g.Sizes):
		return Grid{}, nil, nil, api.ErrShape
	}
	kept := func(dim int) bool { return keep[dim] }
	left := func(dim int) bool { return !keep[dim] }
	part, others := g.only(kept), g.only(left)
	parts, ranks := make([]int, n), make([]int, n)
	for r := range n {
		at := g.coords(r)
		parts[r] = others.rank(choose(at, left))
		ranks[r] = part.rank(choose(at, kept))
	}
	if len(part.Sizes) == 0 {
		part = Grid{[]int{1}, []bool{false}}
	}
	return part, parts, ranks, api.OK
}
