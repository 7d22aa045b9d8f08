// Package datatype is layer 1: types as exact maps of bytes. See shared/doc/01-datatype.md.
package datatype

import (
	"slices"

	"armada/api"
)

// Entry is an entry of the map of a type: a basic kind, and the place of its first byte.
type Entry struct {
	Kind int
	At   int
}

// Run is how often a basic kind follows itself.
type Run struct {
	Kind  int
	Count int
}

// Check checks a type.
func Check(t api.Type) api.Errno {
	_, e := constructors().check(t)
	return e
}

// Map returns the map of a type.
func Map(t api.Type) ([]Entry, api.Errno) {
	l, e := layoutOf(t)
	return l.entries, e
}

// Size returns how many bytes of data a type describes.
func Size(t api.Type) (int, api.Errno) {
	s, e := constructors().check(t)
	return s.size, e
}

// Bounds returns the lower bound and the extent of a type.
func Bounds(t api.Type) (int, int, api.Errno) {
	s, e := constructors().check(t)
	return s.low, s.extent(), e
}

// Tight returns the lower bound and the extent of the data of a type.
func Tight(t api.Type) (int, int, api.Errno) {
	s, e := constructors().check(t)
	return s.first, s.last - s.first, e
}

// Signature returns the basic kinds of some elements of a type, in runs.
func Signature(t api.Type, count int) ([]Run, api.Errno) {
	l, e := elements(t, count)
	var out []Run
	for _, x := range l {
		if n := len(out); n > 0 && out[n-1].Kind == x.Kind {
			out[n-1].Count++
		} else {
			out = append(out, Run{x.Kind, 1})
		}
	}
	return out, e
}

// Segments returns where the data of some elements of a type is.
func Segments(t api.Type, count int) ([]api.Segment, api.Errno) {
	l, e := elements(t, count)
	return segments(l, 0, sizeOf(l)), e
}

// Part returns where a part of the data of some elements of a type is.
func Part(t api.Type, count, from, to int) ([]api.Segment, api.Errno) {
	l, e := elements(t, count)
	if e != api.OK {
		return nil, e
	}
	if from < 0 || to < from || to > sizeOf(l) {
		return nil, api.ErrRange
	}
	return segments(l, from, to), api.OK
}

// Overlaps reports whether a byte belongs to the data twice.
func Overlaps(t api.Type, count int) (bool, api.Errno) {
	l, e := elements(t, count)
	seen := map[int]bool{}
	for _, at := range places(l) {
		if seen[at] {
			return true, e
		}
		seen[at] = true
	}
	return false, e
}

// Pack returns the data of some elements in memory.
func Pack(t api.Type, count int, memory []byte, at int) ([]byte, api.Errno) {
	l, e := elements(t, count)
	switch {
	case e != api.OK:
		return nil, e
	case !inside(l, at, len(memory)):
		return nil, api.ErrRange
	}
	out := make([]byte, sizeOf(l))
	for i, place := range places(l) {
		out[i] = memory[at+place]
	}
	return out, api.OK
}

// Unpack returns memory into which data was written.
func Unpack(t api.Type, count int, memory []byte, at int, data []byte) ([]byte, api.Errno) {
	l, e := elements(t, count)
	switch {
	case e != api.OK:
		return nil, e
	case len(data) != sizeOf(l):
		return nil, api.ErrShape
	case !inside(l, at, len(memory)):
		return nil, api.ErrRange
	}
	out := slices.Clone(memory)
	for i, place := range places(l) {
		out[at+place] = data[i]
	}
	return out, api.OK
}

// Same reports whether two types have the same map and the same bounds.
func Same(t, u api.Type) bool {
	a, e := layoutOf(t)
	if e != api.OK {
		return false
	}
	b, e := layoutOf(u)
	return e == api.OK && a.low == b.low && a.high == b.high && slices.Equal(a.entries, b.entries)
}

// Normal returns the normal type with the same map and the same bounds.
func Normal(t api.Type) (api.Type, api.Errno) {
	l, e := layoutOf(t)
	if e != api.OK {
		return api.Type{}, e
	}
	runs := api.Type{Kind: api.Struct}
	for i, x := range l.entries {
		if i > 0 && follows(l.entries[i-1], x) {
			runs.Blocks[len(runs.Blocks)-1]++
			continue
		}
		runs.Blocks = append(runs.Blocks, 1)
		runs.Places = append(runs.Places, x.At)
		runs.Of = append(runs.Of, api.Type{Kind: x.Kind})
	}
	return api.Type{Kind: api.Resized, Places: []int{l.low, l.extent()}, Of: []api.Type{runs}}, api.OK
}
