package net

import (
	"iter"
	"slices"
)

// torus has a ring of switches along each dimension.
type torus struct {
	lengths  []int // of the rings, which are the sides
	switches int
}

func torusOf(s Spec) (torus, bool) {
	if !within(len(s.Sides), 1, maxDims) || !within(s.Hosts, 1, maxHosts) {
		return torus{}, false
	}
	switches := 1
	for _, side := range s.Sides {
		if !within(side, 2, 16) {
			return torus{}, false
		}
		switches *= side
	}
	return torus{s.Sides, switches}, switches <= maxSize
}

func (t torus) size() (switches, homes int) { return t.switches, t.switches }

// place returns the coordinates of a switch.
func (t torus) place(x int) []int {
	at := make([]int, len(t.lengths))
	for dim, length := range slices.Backward(t.lengths) {
		at[dim] = x % length
		x /= length
	}
	return at
}

// number returns the switch with some coordinates.
func (t torus) number(at []int) int {
	x := 0
	for dim, length := range t.lengths {
		x = x*length + at[dim]
	}
	return x
}

func (t torus) neighbors(x int) iter.Seq[int] {
	near := make([]int, 0, 2*len(t.lengths))
	stride := t.switches
	for _, length := range t.lengths {
		stride /= length
		c := x / stride % length
		near = append(near, x+stride*(modulo(c+1, length)-c), x+stride*(modulo(c-1, length)-c))
	}
	slices.Sort(near)
	return slices.Values(slices.Compact(near)) // in a ring of two both ways lead to the same switch
}

func (t torus) route(x, goal int) iter.Seq2[int, int] {
	return func(yield func(to, class int) bool) {
		at, end := t.place(x), t.place(goal)
		for dim, length := range t.lengths {
			by := 1
			if modulo(end[dim]-at[dim], length) > length/2 {
				by = -1
			}
			class := 0
			for at[dim] != end[dim] {
				at[dim] += by
				if !within(at[dim], 0, length-1) {
					at[dim] = modulo(at[dim], length)
					class = 1
				}
				if !yield(t.number(at), class) {
					return
				}
			}
		}
	}
}

func (t torus) snake() []int {
	at, directions := make([]int, len(t.lengths)), slices.Repeat([]int{1}, len(t.lengths))
	out := []int{0}
	for range t.switches - 1 {
		for dim, length := range slices.Backward(t.lengths) {
			if next := at[dim] + directions[dim]; within(next, 0, length-1) {
				at[dim] = next
				break
			}
			directions[dim] = -directions[dim] // it is behind the one that is changed
		}
		out = append(out, t.number(at))
	}
	return out
}

func (t torus) sides() iter.Seq[func(x int) bool] {
	return func(yield func(func(x int) bool) bool) {
		for dim, length := range t.lengths {
			if !yield(func(x int) bool { return t.place(x)[dim] < length/2 }) {
				return
			}
		}
	}
}
