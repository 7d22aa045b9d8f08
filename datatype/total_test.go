package datatype_test

import (
	"reflect"
	"slices"
	"testing"

	"armada/api"
	"armada/datatype"
)

// callAll calls each function of the package.
func callAll(x, y api.Type, count, from, to, start int, memory, data []byte) {
	datatype.Check(x)
	datatype.Map(x)
	datatype.Size(x)
	datatype.Bounds(x)
	datatype.Tight(x)
	datatype.Signature(x, count)
	datatype.Segments(x, count)
	datatype.Part(x, count, from, to)
	datatype.Overlaps(x, count)
	datatype.Pack(x, count, memory, start)
	datatype.Unpack(x, count, memory, start, data)
	datatype.Same(x, y)
	datatype.Normal(x)
	datatype.Print(x)
}

// P0: no argument makes a function panic or go on for ever.
func TestAnyArguments(t *testing.T) {
	self := contig(1, octet)
	self.Of[0] = self
	wide := structure(times(3, highest), times(3, lowest), octet, octet, octet)
	wide.Of[0], wide.Of[1], wide.Of[2] = octet, wide, wide
	large := subarray(times(4, 4096), times(4, 4096), times(4, 0), resized(0, far, octet))
	odd := []int{lowest, lowest + 1, -far, -1, 0, 1, 4096, far, highest - 1, highest}
	types := []api.Type{{}, {Kind: lowest}, {Kind: highest}, octet, self, wide, large, nested(8), nested(9), nested(20000),
		resized(0, far, real8), resized(-far, 0, octet), at(far-8, real8), contig(4096, octet), vector(4096, 4096, far, octet)}
	for kind := range 13 {
		for _, n := range odd {
			types = append(types, api.Type{Kind: kind, Count: n, Block: n, Stride: n, Sizes: list(n), Blocks: list(n, n), Places: list(n, n), Of: []api.Type{octet}})
		}
		types = append(types, api.Type{Kind: kind}, api.Type{Kind: kind, Of: []api.Type{octet}})
	}
	for _, x := range types {
		callAll(x, octet, 1, 0, 0, 0, nil, nil)
		for _, n := range odd {
			for _, m := range odd {
				callAll(x, x, n, m, n, m, make([]byte, 9), make([]byte, 8))
				callAll(x, octet, 1, n, m, n, make([]byte, 9), make([]byte, 1))
			}
		}
	}
	for _, s := range []string{"", "\xff\xfe", "contig(", "struct([", "resized([9999999999999999999999, 1], byte)"} {
		datatype.Read(s)
	}
}

// P0: types of many types, that are only looked at.
func TestManyTypes(t *testing.T) {
	leaves := times(4096, contig(4096, octet))
	blocks, places := times(4096, 0), times(4096, 0)
	blocks[4095] = 1
	row := structure(blocks, places, leaves...)
	some := times(64, 0)
	table := structure(some, times(64, 0), times(64, row)...)
	if l, e := datatype.Map(table); e != api.ErrRange || len(l) != 0 {
		t.Error(len(l), e)
	}
	some[63] = 1
	if l, e := datatype.Map(table); e != api.OK || len(l) != 4096 {
		t.Error(len(l), e)
	}
}

// R4 and R3: arguments are not changed, and nil lists are empty lists.
func TestArgumentsStay(t *testing.T) {
	d := dice(12)
	for range 300 {
		x, memory := d.valid(), times(200, byte(7))
		before := clone(x)
		size, _ := datatype.Size(x)
		data := times(size*2, byte(9))
		callAll(x, x, 2, 0, 1, 60, memory, data)
		n, _ := datatype.Normal(x)
		n.Places[0]++
		n.Of[0].Blocks[0]++
		n.Of[0].Places[0]++
		if m, _ := datatype.Map(x); len(m) > 0 {
			m[0].At++
		}
		if !reflect.DeepEqual(x, before) || slices.Max(memory) != 7 || slices.Min(data) != 9 {
			t.Fatalf("%+v: an argument was changed", before)
		}
		empty := emptied(clone(x))
		if s := must(datatype.Print(empty)); s != must(datatype.Print(x)) || !datatype.Same(x, empty) {
			t.Fatalf("%+v: empty lists matter", x)
		}
	}
}

// emptied makes all nil lists of a tree empty ones.
func emptied(t api.Type) api.Type {
	fillEmpty(&t)
	for i := range t.Of {
		t.Of[i] = emptied(t.Of[i])
	}
	return t
}
