package datatype_test

import (
	"testing"

	"armada/api"
	"armada/datatype"
)

const (
	far     = api.MaxPlace
	highest = int(^uint(0) >> 1)
	lowest  = -highest - 1
)

var (
	octet = api.Type{Kind: api.Byte}
	half  = api.Type{Kind: api.Half}
	word  = api.Type{Kind: api.Word}
	long  = api.Type{Kind: api.Long}
	real8 = api.Type{Kind: api.Real}
)

func contig(count int, of ...api.Type) api.Type {
	return api.Type{Kind: api.Contig, Count: count, Of: of}
}

func vector(count, block, stride int, of ...api.Type) api.Type {
	return api.Type{Kind: api.Vector, Count: count, Block: block, Stride: stride, Of: of}
}

func indexed(blocks, places []int, of ...api.Type) api.Type {
	return api.Type{Kind: api.Indexed, Blocks: blocks, Places: places, Of: of}
}

func structure(blocks, places []int, of ...api.Type) api.Type {
	return api.Type{Kind: api.Struct, Blocks: blocks, Places: places, Of: of}
}

func resized(low, extent int, of ...api.Type) api.Type {
	return api.Type{Kind: api.Resized, Places: []int{low, extent}, Of: of}
}

func subarray(sizes, blocks, places []int, of ...api.Type) api.Type {
	return api.Type{Kind: api.Subarray, Sizes: sizes, Blocks: blocks, Places: places, Of: of}
}

// at is a type moved by n.
func at(n int, of api.Type) api.Type { return structure([]int{1}, []int{n}, of) }

// nested is a type of the given depth.
func nested(depth int) api.Type {
	t := octet
	for range depth - 1 {
		t = contig(1, t)
	}
	return t
}

// times returns n elements that are x.
func times[T any](n int, x T) []T {
	l := make([]T, n)
	for i := range l {
		l[i] = x
	}
	return l
}

func list(l ...int) []int { return l }

func segs(l ...int) []api.Segment {
	var out []api.Segment
	for i := 0; i < len(l); i += 2 {
		out = append(out, api.Segment{At: l[i], Len: l[i+1]})
	}
	return out
}

func entries(l ...int) []datatype.Entry {
	var out []datatype.Entry
	for i := 0; i < len(l); i += 2 {
		out = append(out, datatype.Entry{Kind: l[i], At: l[i+1]})
	}
	return out
}

func runs(l ...int) []datatype.Run {
	var out []datatype.Run
	for i := 0; i < len(l); i += 2 {
		out = append(out, datatype.Run{Kind: l[i], Count: l[i+1]})
	}
	return out
}

// read returns the type of a string that is one.
func read(t *testing.T, s string) api.Type {
	t.Helper()
	x, e := datatype.Read(s)
	if e != api.OK {
		t.Fatalf("Read(%q): %v", s, e)
	}
	return x
}
