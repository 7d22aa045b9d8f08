package datatype

import (
	"iter"

	"armada/api"
)

// sizes are the sizes of the basic kinds.
var sizes = [...]int{api.Byte: 1, api.Half: 2, api.Word: 4, api.Long: 8, api.Real: 8}

func isBasic(kind int) bool { return kind >= api.Byte && kind <= api.Real }

// maxMoves is the most that a count, a block or a size may be, and maxSides the number of dimensions.
const (
	maxMoves = 4096
	maxSides = 4
)

// block is some elements of one type, one after the other: which one of Of, the move of the first of them, and how many they are.
type block struct {
	of    int
	at    int
	count int
}

// constructor is a kind of types. Reading, printing, checking and laying out a type all follow it.
type constructor struct {
	name        string
	least, most int                                                // how many elements of Of there are
	fields      func(t *api.Type) (numbers []*int, lists []*[]int) // the fields that it uses, in the order of its string
	shaped      func(t api.Type) bool                              // whether the lists have as many elements as stated
	fits        func(t api.Type) bool                              // whether the numbers are as stated
	blocks      func(t api.Type, extent int) iter.Seq[block]       // what is put together; extent is that of the first of Of
	bounds      func(t api.Type, of span) (int, int)               // nil if the bounds are those of what is put together
}

// table contains the constructors by kind.
type table map[int]constructor

func constructors() table {
	return table{
		api.Byte:     basic("byte"),
		api.Half:     basic("half"),
		api.Word:     basic("word"),
		api.Long:     basic("long"),
		api.Real:     basic("real"),
		api.Contig:   {"contig", 1, 1, contigFields, anyShape, contigFits, contigBlocks, nil},
		api.Vector:   {"vector", 1, 1, vectorFields, anyShape, vectorFits, vectorBlocks, nil},
		api.Indexed:  {"indexed", 1, 1, blockFields, indexedShaped, blocksFit, indexedBlocks, nil},
		api.Struct:   {"struct", 1, maxMoves, blockFields, structShaped, blocksFit, structBlocks, nil},
		api.Resized:  {"resized", 1, 1, resizedFields, resizedShaped, resizedFits, resizedBlocks, resizedBounds},
		api.Subarray: {"subarray", 1, 1, subarrayFields, subarrayShaped, subarrayFits, subarrayBlocks, subarrayBounds},
	}
}

// plain reports whether the fields that a kind does not use have their zero values.
func (k constructor) plain(t api.Type) bool {
	numbers, lists := k.fields(&t)
	for _, n := range numbers {
		*n = 0
	}
	for _, l := range lists {
		*l = nil
	}
	return t.Count == 0 && t.Block == 0 && t.Stride == 0 && len(t.Sizes) == 0 && len(t.Blocks) == 0 && len(t.Places) == 0
}

func between(n, from, to int) bool { return from <= n && n <= to }

func nearPlace(n int) bool { return between(n, -api.MaxPlace, api.MaxPlace) }

func anyShape(t api.Type) bool { return true }

func basic(name string) constructor {
	return constructor{
		name:   name,
		fields: func(t *api.Type) ([]*int, []*[]int) { return nil, nil },
		shaped: anyShape,
		fits:   func(t api.Type) bool { return true },
	}
}

func contigFields(t *api.Type) ([]*int, []*[]int) { return []*int{&t.Count}, nil }

func contigFits(t api.Type) bool { return between(t.Count, 1, maxMoves) }

func contigBlocks(t api.Type, extent int) iter.Seq[block] {
	return func(yield func(block) bool) {
		yield(block{0, 0, t.Count})
	}
}

func vectorFields(t *api.Type) ([]*int, []*[]int) {
	return []*int{&t.Count, &t.Block, &t.Stride}, nil
}

func vectorFits(t api.Type) bool {
	return between(t.Count, 1, maxMoves) && between(t.Block, 1, maxMoves) && nearPlace(t.Stride)
}

func vectorBlocks(t api.Type, extent int) iter.Seq[block] {
	return func(yield func(block) bool) {
		for i := range t.Count {
			if !yield(block{0, i * t.Stride * extent, t.Block}) {
				return
			}
		}
	}
}

func blockFields(t *api.Type) ([]*int, []*[]int) { return nil, []*[]int{&t.Blocks, &t.Places} }

func blocksFit(t api.Type) bool {
	some := false
	for i, b := range t.Blocks {
		if !between(b, 0, maxMoves) || !nearPlace(t.Places[i]) {
			return false
		}
		some = some || b > 0
	}
	return some
}

func indexedShaped(t api.Type) bool {
	return len(t.Blocks) == len(t.Places) && between(len(t.Blocks), 1, maxMoves)
}

func indexedBlocks(t api.Type, extent int) iter.Seq[block] {
	return func(yield func(block) bool) {
		for i, b := range t.Blocks {
			if !yield(block{0, t.Places[i] * extent, b}) {
				return
			}
		}
	}
}

func structShaped(t api.Type) bool {
	return len(t.Blocks) == len(t.Of) && len(t.Places) == len(t.Of)
}

func structBlocks(t api.Type, extent int) iter.Seq[block] {
	return func(yield func(block) bool) {
		for i, b := range t.Blocks {
			if !yield(block{i, t.Places[i], b}) {
				return
			}
		}
	}
}

func resizedFields(t *api.Type) ([]*int, []*[]int) { return nil, []*[]int{&t.Places} }

func resizedShaped(t api.Type) bool { return len(t.Places) == 2 }

func resizedFits(t api.Type) bool {
	return nearPlace(t.Places[0]) && between(t.Places[1], 0, api.MaxPlace)
}

func resizedBlocks(t api.Type, extent int) iter.Seq[block] {
	return func(yield func(block) bool) {
		yield(block{0, 0, 1})
	}
}

func resizedBounds(t api.Type, of span) (int, int) {
	return t.Places[0], t.Places[0] + t.Places[1]
}
