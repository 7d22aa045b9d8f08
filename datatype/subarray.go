package datatype

import (
	"iter"

	"armada/api"
)

func subarrayFields(t *api.Type) ([]*int, []*[]int) {
	return nil, []*[]int{&t.Sizes, &t.Blocks, &t.Places}
}

func subarrayShaped(t api.Type) bool {
	return len(t.Blocks) == len(t.Sizes) && len(t.Places) == len(t.Sizes) && between(len(t.Sizes), 1, maxSides)
}

func subarrayFits(t api.Type) bool {
	for i, size := range t.Sizes {
		b := t.Blocks[i]
		if !between(size, 1, maxMoves) || !between(b, 1, size) || !between(t.Places[i], 0, size-b) {
			return false
		}
	}
	return true
}

// subarrayBlocks yields the rows of the part. A move wraps around only where the bounds are far out of range, too.
func subarrayBlocks(t api.Type, extent int) iter.Seq[block] {
	return func(yield func(block) bool) {
		last := len(t.Sizes) - 1
		for i := range product(t.Blocks[:last]) {
			if !yield(block{0, rowStart(t, i) * extent, t.Blocks[last]}) {
				return
			}
		}
	}
}

// rowStart returns the number, in the array, of the first element of row i of the part.
func rowStart(t api.Type, i int) int {
	last := len(t.Sizes) - 1
	n, scale := t.Places[last], t.Sizes[last]
	for k := last - 1; k >= 0; k-- {
		n += (t.Places[k] + i%t.Blocks[k]) * scale
		i /= t.Blocks[k]
		scale *= t.Sizes[k]
	}
	return n
}

// subarrayBounds cuts the number of elements where any extent but 0 is out of range already: their product could wrap around.
func subarrayBounds(t api.Type, of span) (int, int) {
	return of.low, of.low + of.extent()*min(product(t.Sizes), 4*api.MaxPlace)
}

func product(l []int) int {
	n := 1
	for _, x := range l {
		n *= x
	}
	return n
}
