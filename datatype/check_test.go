package datatype_test

import (
	"testing"

	"armada/api"
	"armada/datatype"
)

type checkCase struct {
	name string
	t    api.Type
	want api.Errno
}

func checkAll(t *testing.T, l []checkCase) {
	t.Helper()
	for i, x := range l {
		if e := datatype.Check(x.t); e != x.want {
			t.Errorf("%d %s: %v, not %v", i, x.name, e, x.want)
		}
	}
}

// P1.1: depth comes before all other errors.
func TestCheckDepth(t *testing.T) {
	self := contig(1, octet)
	self.Of[0] = self
	twice := contig(0, octet, octet)
	twice.Of[0], twice.Of[1] = twice, twice
	invalid := nested(8)
	invalid.Of[0].Of[0].Kind = 77
	checkAll(t, []checkCase{
		{"8", nested(8), api.OK},
		{"9", nested(9), api.ErrDeep},
		{"8 and not valid", invalid, api.ErrArg},
		{"9 and not valid", contig(0, invalid), api.ErrDeep},
		{"the second element is deep", structure(list(1), list(1, 2, 3), api.Type{Kind: 99}, nested(8)), api.ErrDeep},
		{"the second element is not too deep", structure(list(1, 1), list(0, 0), octet, nested(7)), api.OK},
		{"an element without a block is deep", structure(list(1, 0), list(0, 0), octet, nested(8)), api.ErrDeep},
		{"below a basic kind", api.Type{Kind: api.Byte, Of: []api.Type{nested(8)}}, api.ErrDeep},
		{"in itself", self, api.ErrDeep},
		{"twice in itself", twice, api.ErrDeep},
		{"very deep", nested(100000), api.ErrDeep},
	})
}

// P1.1: a field that a kind does not use has its zero value.
func TestCheckUnusedFields(t *testing.T) {
	type change struct {
		name string
		used string
		do   func(t *api.Type)
	}
	changes := []change{
		{"Count", "contig vector", func(t *api.Type) { t.Count = 1 }},
		{"Block", "vector", func(t *api.Type) { t.Block = 1 }},
		{"Stride", "vector", func(t *api.Type) { t.Stride = -1 }},
		{"Sizes", "subarray", func(t *api.Type) { t.Sizes = list(0) }},
		{"Blocks", "indexed struct subarray", func(t *api.Type) { t.Blocks = list(0) }},
		{"Places", "indexed struct resized subarray", func(t *api.Type) { t.Places = list(0) }},
		{"Of", "", func(t *api.Type) { t.Of = append([]api.Type{octet}, t.Of...) }},
	}
	for kind, name := range map[int]string{
		api.Byte: "byte", api.Half: "half", api.Word: "word", api.Long: "long", api.Real: "real", api.Contig: "contig", api.Vector: "vector",
		api.Indexed: "indexed", api.Struct: "struct", api.Resized: "resized", api.Subarray: "subarray",
	} {
		for _, c := range changes {
			if contains(c.used, name) || c.name == "Of" && name == "struct" {
				continue
			}
			x := sample(kind)
			if e := datatype.Check(x); e != api.OK {
				t.Fatal(name, e)
			}
			c.do(&x)
			if e := datatype.Check(x); e != api.ErrArg {
				t.Errorf("%s with %s: %v", name, c.name, e)
			}
			empty := sample(kind)
			fillEmpty(&empty)
			if e := datatype.Check(empty); e != api.OK {
				t.Errorf("%s with empty lists: %v", name, e)
			}
		}
	}
}

func contains(s, word string) bool {
	for i := 0; i+len(word) <= len(s); i++ {
		if s[i:i+len(word)] == word {
			return true
		}
	}
	return false
}

// sample returns a valid type of a kind.
func sample(kind int) api.Type {
	switch kind {
	case api.Contig:
		return contig(2, half)
	case api.Vector:
		return vector(2, 2, 3, half)
	case api.Indexed:
		return indexed(list(1, 2), list(4, 0), half)
	case api.Struct:
		return structure(list(1, 2), list(4, 0), half, octet)
	case api.Resized:
		return resized(-1, 5, half)
	case api.Subarray:
		return subarray(list(2, 3), list(1, 2), list(1, 0), half)
	}
	return api.Type{Kind: kind}
}

// fillEmpty makes lists that are nil empty ones.
func fillEmpty(t *api.Type) {
	for _, l := range []*[]int{&t.Sizes, &t.Blocks, &t.Places} {
		if *l == nil {
			*l = []int{}
		}
	}
	if t.Of == nil {
		t.Of = []api.Type{}
	}
}

// P1.1: kinds, and the number of elements of Of.
func TestCheckKindsAndElements(t *testing.T) {
	var l []checkCase
	for _, kind := range []int{lowest, -1, 0, 12, 13, 255, 1<<32 + 1, highest} {
		l = append(l, checkCase{"kind", api.Type{Kind: kind}, api.ErrArg}, checkCase{"kind below", contig(1, api.Type{Kind: kind}), api.ErrArg})
	}
	for kind := api.Byte; kind <= api.Subarray; kind++ {
		none, two := sample(kind), sample(kind)
		none.Of, two.Of = nil, []api.Type{octet, octet}
		want := api.ErrArg
		if isBasic(kind) {
			l = append(l, checkCase{"basic", none, api.OK}, checkCase{"basic with two", two, want})
			continue
		}
		l = append(l, checkCase{"none", none, want})
		if kind != api.Struct {
			l = append(l, checkCase{"two", two, want})
		}
	}
	l = append(l,
		checkCase{"4096 elements", structure(times(4096, 1), times(4096, 0), times(4096, octet)...), api.OK},
		checkCase{"4097 elements", structure(times(4097, 1), times(4097, 0), times(4097, octet)...), api.ErrArg},
		checkCase{"4097 elements and no lists", structure(nil, nil, times(4097, octet)...), api.ErrArg},
		checkCase{"no elements and no lists", structure(nil, nil), api.ErrArg},
	)
	checkAll(t, l)
}

// P1.1: the lists of numbers.
func TestCheckShapes(t *testing.T) {
	one, two, five := list(1), list(1, 1), list(1, 1, 1, 1, 1)
	zeros := list(0, 0, 0, 0, 0)
	checkAll(t, []checkCase{
		{"indexed without lists", indexed(nil, nil, octet), api.ErrShape},
		{"indexed with empty lists", indexed(list(), list(), octet), api.ErrShape},
		{"indexed with fewer blocks", indexed(one, two, octet), api.ErrShape},
		{"indexed with fewer places", indexed(two, one, octet), api.ErrShape},
		{"indexed with 4096", indexed(times(4096, 1), times(4096, 3), octet), api.OK},
		{"indexed with 4097", indexed(times(4097, 1), times(4097, 3), octet), api.ErrShape},
		{"indexed with 4097, all 0", indexed(times(4097, 0), times(4097, 3), octet), api.ErrShape},
		{"struct with fewer blocks", structure(one, two, octet, octet), api.ErrShape},
		{"struct with fewer places", structure(two, one, octet, octet), api.ErrShape},
		{"struct with fewer of both", structure(one, one, octet, octet), api.ErrShape},
		{"struct with more of both", structure(two, two, octet), api.ErrShape},
		{"struct without lists", structure(nil, nil, octet), api.ErrShape},
		{"resized without places", api.Type{Kind: api.Resized, Of: []api.Type{octet}}, api.ErrShape},
		{"resized with one", api.Type{Kind: api.Resized, Places: one, Of: []api.Type{octet}}, api.ErrShape},
		{"resized with three", api.Type{Kind: api.Resized, Places: list(0, 1, 1), Of: []api.Type{octet}}, api.ErrShape},
		{"subarray without lists", subarray(nil, nil, nil, octet), api.ErrShape},
		{"subarray with fewer sizes", subarray(one, two, zeros[:2], octet), api.ErrShape},
		{"subarray with fewer blocks", subarray(two, one, zeros[:2], octet), api.ErrShape},
		{"subarray with fewer places", subarray(two, two, zeros[:1], octet), api.ErrShape},
		{"subarray of 4 dimensions", subarray(five[:4], five[:4], zeros[:4], octet), api.OK},
		{"subarray of 5 dimensions", subarray(five, five, zeros, octet), api.ErrShape},
	})
}

// P1.1: numbers that are not as stated.
func TestCheckNumbers(t *testing.T) {
	var l []checkCase
	add := func(ok bool, x api.Type) {
		want := api.ErrRange
		if ok {
			want = api.OK
		}
		l = append(l, checkCase{"numbers", x, want})
	}
	empty := resized(0, 0, octet)
	for _, n := range []int{lowest, -4096, -1, 0, 1, 4096, 4097, 1<<32 + 1, highest} {
		from1, from0 := n == 1 || n == 4096, n >= 0 && n <= 4096
		add(from1, contig(n, octet))
		add(from1, vector(n, 1, 1, octet))
		add(from1, vector(1, n, 1, octet))
		add(from0, indexed(list(1, n), list(0, 0), empty) /* 4097 entries with 4096 */)
		add(from0, structure(list(1, n), list(0, 0), empty, empty))
		add(from1, subarray(list(n), list(1), list(0), octet))
	}
	for i := range l { // one block and 4096 more are too many entries, but numbers as stated
		if x := l[i].t; len(x.Blocks) == 2 && x.Blocks[1] == 4096 {
			l[i].want = api.ErrMany
		}
	}
	for _, n := range []int{lowest, -far - 1, -far, 0, far, far + 1, highest} {
		near := n >= -far && n <= far
		add(near, vector(1, 1, n, octet))
		add(near, indexed(list(1), list(n), empty))
		add(near, indexed(list(1, 0), list(0, n), octet))
		add(near, at(n, resized(0, 0, indexed(list(1), list(-sign(n)), octet))))
		add(near, structure(list(1, 0), list(0, n), octet, octet))
		add(near, resized(n, 0, octet))
		add(near && n >= 0, resized(0, n, octet))
	}
	add(false, indexed(list(0), list(1), octet))
	add(false, indexed(list(0, 0), list(1, 2), octet))
	add(false, structure(list(0), list(1), octet))
	add(false, structure(list(0, 0), list(1, 2), octet, octet))
	add(true, indexed(list(0, 1), list(1, 2), octet))
	add(true, structure(list(0, 1), list(1, 2), octet, octet))
	checkAll(t, l)
}

func sign(n int) int {
	switch {
	case n < 0:
		return -1
	case n > 0:
		return 1
	}
	return 0
}

// P1.1: the numbers of a Subarray.
func TestCheckSubarrayNumbers(t *testing.T) {
	for size := range 5 {
		for block := -1; block < 6; block++ {
			for place := -1; place < 6; place++ {
				want := api.ErrRange
				if size >= 1 && block >= 1 && place >= 0 && place+block <= size {
					want = api.OK
				}
				checkAll(t, []checkCase{
					{"the only side", subarray(list(size), list(block), list(place), octet), want},
					{"the last side", subarray(list(2, size), list(1, block), list(1, place), octet), want},
					{"the first side", subarray(list(size, 2), list(block, 1), list(place, 1), octet), want},
				})
			}
		}
	}
	large := []int{4096, 4096, 4096, 4096}
	ones, zeros, ends := times(4, 1), times(4, 0), times(4, 4095)
	point := resized(3, 0, octet)
	checkAll(t, []checkCase{
		{"a point of a large array of nothing", subarray(large, ones, ends, point), api.OK},
		{"a part of it", subarray(large, list(8, 8, 8, 8), zeros, point), api.OK},
		{"a larger part", subarray(large, list(8, 8, 8, 9), zeros, point), api.ErrMany},
		{"all of it", subarray(large, large, zeros, point), api.ErrMany},
		{"all of a large array", subarray(large, large, zeros, octet), api.ErrMany},
		{"a point of a large array", subarray(large, ones, zeros, octet), api.ErrRange},
		{"one of far elements", subarray(large, ones, zeros, resized(0, 65536, octet)), api.ErrRange},
		{"one whose extent would wrap around", subarray(large, ones, ends, resized(0, far, octet)), api.ErrRange},
		{"the largest array", subarray(list(1024, 1024), list(1, 1), list(1023, 1023), octet), api.OK},
		{"one more", subarray(list(1024, 1025), list(1, 1), list(0, 0), octet), api.ErrRange},
		{"the size of a block is out of range", subarray(list(highest), list(highest), list(0), octet), api.ErrRange},
		{"a place that would wrap around", subarray(list(4), list(1), list(highest), octet), api.ErrRange},
		{"a block that would wrap around", subarray(list(4), list(lowest), list(0), octet), api.ErrRange},
	})
}

// P1.1: at most 4096 entries, in each type of the tree, and before other numbers out of range.
func TestCheckMany(t *testing.T) {
	c64, c65 := contig(64, octet), contig(65, octet)
	checkAll(t, []checkCase{
		{"64 of 64", contig(64, c64), api.OK},
		{"64 of 65", contig(64, c65), api.ErrMany},
		{"vector", vector(64, 64, 64, octet), api.OK},
		{"vector", vector(4096, 4096, 1, octet), api.ErrMany},
		{"vector", vector(2, 2048, far, contig(1, octet)), api.ErrRange},
		{"vector", vector(2, 2049, far, octet), api.ErrMany},
		{"indexed", indexed(list(4095, 1), list(0, 0), octet), api.OK},
		{"indexed", indexed(list(4095, 2), list(0, 0), octet), api.ErrMany},
		{"indexed", indexed(list(2, 0, 4095), list(far, far, far), long), api.ErrMany},
		{"indexed of all", indexed(times(4096, 4096), times(4096, far), c64), api.ErrMany},
		{"struct", structure(list(64, 0), list(0, 0), c64, c65), api.OK},
		{"struct", structure(list(63, 1), list(0, 0), c64, c65), api.ErrMany},
		{"resized", resized(0, 1, contig(4096, octet)), api.OK},
		{"subarray", subarray(list(64, 65), list(64, 64), list(0, 0), octet), api.OK},
		{"subarray", subarray(list(64, 65), list(64, 65), list(0, 0), octet), api.ErrMany},
		{"many below", at(far, contig(4096, contig(2, octet))), api.ErrMany},
		{"many in an element without a block", structure(list(0, 1), list(0, 0), contig(4096, c64), octet), api.ErrMany},
	})
}

// P1.1: places, bounds and extents that are out of range, each one alone.
func TestCheckFar(t *testing.T) {
	left := func(n int) api.Type { return resized(0, 0, at(-n, octet)) }
	right := func(n int) api.Type { return resized(0, 0, at(n, octet)) }
	both := func(x, y api.Type) api.Type { return structure(list(1, 1), list(0, 0), x, y) }
	checkAll(t, []checkCase{
		{"the first place of all", at(-far, octet), api.OK},
		{"a place before it", at(-1, left(far)), api.ErrRange},
		{"the last place of all", at(far-1, octet), api.OK},
		{"a place behind it", at(far, octet), api.ErrRange},
		{"a place behind it, with small bounds", at(1, right(far-1)), api.ErrRange},
		{"the last place of a half", at(far-2, half), api.OK},
		{"a place behind a half", at(far-1, half), api.ErrRange},
		{"a place behind a long", at(far-7, long), api.ErrRange},
		{"the last place of a long", at(far-8, long), api.OK},
		{"the last entry decides, not the first", indexed(list(1, 1), list(far, 0), octet), api.ErrRange},
		{"the least lower bound", at(0, resized(-far, 1, octet)), api.OK},
		{"a lower bound below it", at(-1, resized(-far, 1, octet)), api.ErrRange},
		{"the greatest lower bound", resized(far, 0, octet), api.OK},
		{"both bounds above it", at(1, resized(far, 0, octet)), api.ErrRange},
		{"the greatest upper bound", resized(far-3, 3, octet), api.OK},
		{"an upper bound above it", resized(far-3, 4, octet), api.ErrRange},
		{"an upper bound moved above it", at(1, resized(0, far, octet)), api.ErrRange},
		{"the greatest extent", both(resized(-far, 0, octet), resized(0, 0, octet)), api.OK},
		{"an extent above it", both(resized(-far, 0, octet), resized(1, 0, octet)), api.ErrRange},
		{"an extent of two sides", both(resized(-far, 0, octet), resized(far, 0, octet)), api.ErrRange},
		{"the greatest extent of contig", contig(4, resized(0, far/4, octet)), api.OK},
		{"an extent of contig above it", contig(5, resized(0, far/4, octet)), api.ErrRange},
		{"the greatest extent of data", both(left(far/2), right(far/2-1)), api.OK},
		{"an extent of data above it", both(left(far/2), right(far/2)), api.ErrRange},
		{"an extent of data of two sides", both(left(far), right(far-1)), api.ErrRange},
		{"a stride", vector(2, 1, far-1, octet), api.OK},
		{"a stride", vector(2, 1, far, octet), api.ErrRange},
		{"a stride to the left", vector(2, 1, -far+1, octet), api.OK},
		{"a stride to the left", vector(2, 1, -far, octet), api.ErrRange},
		{"the greatest moves", vector(4096, 1, far, resized(0, far, octet)), api.ErrRange},
		{"the least moves", vector(4096, 1, -far, resized(0, far, octet)), api.ErrRange},
		{"no moves at all", vector(4096, 1, -far, resized(0, 0, octet)), api.OK},
		{"a product of places", indexed(list(1), list(far), resized(0, far, octet)), api.ErrRange},
		{"a place of a block without elements", indexed(list(1, 0), list(0, far), long), api.OK},
		{"far below", contig(1, at(far, octet)), api.ErrRange},
		{"far in an element without a block", structure(list(0, 1), list(0, 0), at(far, octet), octet), api.ErrRange},
	})
}

// P1.1: which of several errors decides.
func TestCheckOrder(t *testing.T) {
	arg, shape := api.Type{Kind: 99}, indexed(nil, nil, octet)
	many, wide := contig(4096, word, word), contig(4096, contig(2, octet))
	checkAll(t, []checkCase{
		{"elements come first", contig(0, shape), api.ErrShape},
		{"elements of a kind that has none", api.Type{Kind: api.Byte, Of: []api.Type{shape}}, api.ErrShape},
		{"elements of a kind that is not valid", api.Type{Kind: 99, Of: []api.Type{wide}}, api.ErrMany},
		{"elements of a list that is too long", contig(1, octet, wide), api.ErrMany},
		{"the left one first", structure(list(1, 1), list(0, 0), shape, arg), api.ErrShape},
		{"the right one then", structure(list(1, 1), list(0, 0), octet, arg), api.ErrArg},
		{"the deepest one of the left first", structure(list(1, 1), list(0, 0), contig(0, contig(0, wide)), arg), api.ErrMany},
		{"the left one, however deep the right one is", structure(list(1, 1), list(0, 0), contig(0, octet), contig(1, contig(1, arg))), api.ErrRange},
		{"argument before shape", api.Type{Kind: api.Indexed, Count: 1, Of: []api.Type{octet}}, api.ErrArg},
		{"elements before numbers", many, api.ErrArg},
		{"elements before shape", indexed(nil, nil), api.ErrArg},
		{"a field before numbers", api.Type{Kind: api.Contig, Count: -1, Block: 1, Of: []api.Type{octet}}, api.ErrArg},
		{"shape before numbers", indexed(list(-1), list(), octet), api.ErrShape},
		{"shape before numbers of resized", api.Type{Kind: api.Resized, Places: list(0, -1, 0), Of: []api.Type{octet}}, api.ErrShape},
		{"shape before numbers of subarray", subarray(list(0), list(1, 1), list(0), octet), api.ErrShape},
		{"numbers before many", vector(4096, 4096, far+1, octet), api.ErrRange},
		{"numbers before many of indexed", indexed(list(4096, 4096), list(0, far+1), octet), api.ErrRange},
		{"many before far", vector(4096, 4096, far, long), api.ErrMany},
		{"many before far of struct", structure(list(4096, 1), list(far, far), octet, octet), api.ErrMany},
	})
}

// P1.1: the same answer as the model's, for types with something wrong in them.
func TestCheckAgainstModel(t *testing.T) {
	d := dice(1)
	seen := map[api.Errno]int{}
	for i := range 30000 {
		x := clone(d.tree(1 + d.roll(4)))
		for range d.roll(3) {
			d.spoil(&x)
		}
		_, want := modelOf(x)
		seen[want]++
		if e := datatype.Check(x); e != want {
			t.Fatalf("%d %+v: %v, not %v", i, x, e, want)
		}
	}
	for _, e := range []api.Errno{api.OK, api.ErrArg, api.ErrShape, api.ErrRange, api.ErrMany} {
		if seen[e] < 50 {
			t.Errorf("only %d types with %v", seen[e], e)
		}
	}
}

// P1.1: the rows of the chapter's examples.
func TestCheckExamples(t *testing.T) {
	checkAll(t, []checkCase{
		{"blocks 0", indexed(list(0, 0), list(1, 2), octet), api.ErrRange},
		{"count 0", contig(0, octet), api.ErrRange},
	})
}
