package datatype_test

import (
	"slices"

	"armada/api"
)

// dice yields the same numbers in each run of the tests.
type dice uint64

// roll returns a number from 0 to n - 1.
func (d *dice) roll(n int) int {
	*d = *d*6364136223846793005 + 1442695040888963407
	return int(uint64(*d)>>33) % n
}

func (d *dice) rolls(count, from, to int) []int {
	l := make([]int, count)
	for i := range l {
		l[i] = from + d.roll(to-from+1)
	}
	return l
}

// tree returns a type of small numbers, and of at most the given depth; it is mostly valid.
func (d *dice) tree(depth int) api.Type {
	if depth == 1 || d.roll(5) == 0 {
		return api.Type{Kind: api.Byte + d.roll(5)}
	}
	x := d.tree(depth - 1)
	switch d.roll(6) {
	case 0:
		return contig(1+d.roll(3), x)
	case 1:
		return vector(1+d.roll(3), 1+d.roll(2), d.roll(9)-4, x)
	case 2:
		n := 1 + d.roll(3)
		blocks := d.rolls(n, 0, 2)
		blocks[d.roll(n)] = 1
		return indexed(blocks, d.rolls(n, -5, 5), x)
	case 3:
		n := 1 + d.roll(3)
		blocks, of := d.rolls(n, 0, 2), []api.Type{x}
		for range n - 1 {
			of = append(of, d.tree(depth-1))
		}
		blocks[d.roll(n)] = 1
		return structure(blocks, d.rolls(n, -20, 20), of...)
	case 4:
		return resized(d.roll(21)-10, d.roll(20), x)
	}
	n := 1 + d.roll(3)
	sizes, blocks, places := d.rolls(n, 1, 3), make([]int, n), make([]int, n)
	for i, s := range sizes {
		blocks[i] = 1 + d.roll(s)
		places[i] = d.roll(s - blocks[i] + 1)
	}
	return subarray(sizes, blocks, places, x)
}

// valid returns a valid type that is neither large nor far away.
func (d *dice) valid() api.Type {
	for {
		t := d.tree(1 + d.roll(4))
		if m, e := modelOf(t); e == api.OK && len(m.entries) <= 64 {
			return t
		}
	}
}

// clone returns a type that shares no memory with t.
func clone(t api.Type) api.Type {
	t.Sizes, t.Blocks, t.Places, t.Of = slices.Clone(t.Sizes), slices.Clone(t.Blocks), slices.Clone(t.Places), slices.Clone(t.Of)
	for i := range t.Of {
		t.Of[i] = clone(t.Of[i])
	}
	return t
}

// spoil changes one field, somewhere in the tree.
func (d *dice) spoil(t *api.Type) {
	if n := len(t.Of); n > 0 && d.roll(2) == 0 {
		d.spoil(&t.Of[d.roll(n)])
		return
	}
	odd := []int{lowest, -far - 1, -far, -1, 0, 1, 2, 3, 64, 1000, 4095, 4096, 4097, far - 1, far, far + 1, highest}
	x := odd[d.roll(len(odd))]
	switch d.roll(9) {
	case 0:
		t.Kind = d.roll(14) - 1
	case 1:
		t.Count = x
	case 2:
		t.Block = x
	case 3:
		t.Stride = x
	case 4:
		t.Sizes = d.spoilList(t.Sizes, x)
	case 5, 6:
		t.Blocks = d.spoilList(t.Blocks, x)
	case 7:
		t.Places = d.spoilList(t.Places, x)
	case 8:
		if n := len(t.Of); n > 0 && d.roll(2) == 0 {
			t.Of = t.Of[:n-1]
		} else {
			t.Of = append(t.Of, octet)
		}
	}
}

func (d *dice) spoilList(l []int, x int) []int {
	n := len(l)
	switch {
	case n > 0 && d.roll(8) > 0:
		l[d.roll(n)] = x
		return l
	case n > 0 && d.roll(2) == 0:
		return l[:n-1]
	}
	return append(l, x)
}
