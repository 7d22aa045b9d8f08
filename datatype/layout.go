package datatype

import (
	"iter"

	"armada/api"
)

// layout is a type laid out: what it covers, and its map.
type layout struct {
	span
	entries []Entry
}

// layoutOf returns the layout of a type, or the error of Check.
func layoutOf(t api.Type) (layout, api.Errno) {
	c := constructors()
	if _, e := c.check(t); e != api.OK {
		return layout{}, e
	}
	return c.expand(t), api.OK
}

// expand lays a valid type out. Elements of Of without a block are left out: they may be many, and large.
func (c table) expand(t api.Type) layout {
	if isBasic(t.Kind) {
		return layout{basicSpan(t.Kind), []Entry{{Kind: t.Kind}}}
	}
	k, spans, maps := c[t.Kind], make([]span, len(t.Of)), make([][]Entry, len(t.Of))
	for i := range t.Of {
		if t.Kind != api.Struct || t.Blocks[i] > 0 {
			l := c.expand(t.Of[i])
			spans[i], maps[i] = l.span, l.entries
		}
	}
	s := k.span(t, spans)
	entries := make([]Entry, 0, s.count)
	for i, by := range k.moves(t, spans) {
		entries = appendMoved(entries, maps[i], by)
	}
	return layout{s, entries}
}

// moves yields the elements that a type puts together: which one of Of each is, and by how much it is moved.
func (k constructor) moves(t api.Type, of []span) iter.Seq2[int, int] {
	return func(yield func(int, int) bool) {
		for b := range k.blocks(t, of[0].extent()) {
			for j := range b.count {
				if !yield(b.of, b.at+j*of[b.of].extent()) {
					return
				}
			}
		}
	}
}

func appendMoved(to, l []Entry, by int) []Entry {
	for _, x := range l {
		to = append(to, Entry{x.Kind, x.At + by})
	}
	return to
}

// elements returns the entries of count elements of a type.
func elements(t api.Type, count int) ([]Entry, api.Errno) {
	l, e := layoutOf(t)
	switch {
	case e != api.OK:
		return nil, e
	case count < 0:
		return nil, api.ErrRange
	case count > api.MaxEntries/len(l.entries):
		return nil, api.ErrMany
	}
	out := make([]Entry, 0, count*len(l.entries))
	for i := range count {
		out = appendMoved(out, l.entries, i*l.extent())
	}
	for _, x := range out {
		if !nearPlace(x.At) {
			return nil, api.ErrRange
		}
	}
	return out, api.OK
}

func sizeOf(l []Entry) int {
	n := 0
	for _, x := range l {
		n += sizes[x.Kind]
	}
	return n
}

// follows reports whether y begins where x ends, and is of the same kind.
func follows(x, y Entry) bool {
	return x.Kind == y.Kind && x.At+sizes[x.Kind] == y.At
}

// places yields the bytes of the data: the number of each one, and its place.
func places(l []Entry) iter.Seq2[int, int] {
	return func(yield func(int, int) bool) {
		i := 0
		for _, x := range l {
			for j := range sizes[x.Kind] {
				if !yield(i, x.At+j) {
					return
				}
				i++
			}
		}
	}
}

// segments returns where the bytes from from to to - 1 of the data are.
func segments(l []Entry, from, to int) []api.Segment {
	var out []api.Segment
	for i, at := range places(l) {
		n := len(out)
		switch {
		case i < from || i >= to:
		case n > 0 && out[n-1].At+out[n-1].Len == at:
			out[n-1].Len++
		default:
			out = append(out, api.Segment{At: at, Len: 1})
		}
	}
	return out
}

// inside reports whether all bytes of the data, moved by at, are in a memory of n bytes. It adds nothing to at, which can be any integer.
func inside(l []Entry, at, n int) bool {
	for _, place := range places(l) {
		if at < -place || at >= n-place {
			return false
		}
	}
	return true
}
