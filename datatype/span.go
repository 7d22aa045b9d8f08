package datatype

import "armada/api"

// span is what a type covers, without its single entries: it tells whether a type is valid before its map is built.
type span struct {
	count, size int // entries, and their bytes
	first, last int // the least place of an entry, and the greatest place behind one
	low, high   int // the bounds
}

func basicSpan(kind int) span {
	return span{count: 1, size: sizes[kind], last: sizes[kind], high: sizes[kind]}
}

func (s span) extent() int { return s.high - s.low }

// row is the span of n elements one after the other, the first of them moved by at; n is from 1 on.
func (s span) row(at, n int) span {
	end := at + (n-1)*s.extent()
	return span{count: n * s.count, size: n * s.size, first: s.first + at, last: s.last + end, low: s.low + at, high: s.high + end}
}

// join is the span of two types put together; a span without entries stands for nothing yet.
func (s span) join(t span) span {
	if s.count == 0 {
		return t
	}
	return span{
		count: s.count + t.count, size: s.size + t.size,
		first: min(s.first, t.first), last: max(s.last, t.last),
		low: min(s.low, t.low), high: max(s.high, t.high),
	}
}

// near reports whether all places, both bounds and both extents are in range. No extent is negative, so each pair needs one look from below and one from above.
func (s span) near() bool {
	return s.first >= -api.MaxPlace && s.last <= api.MaxPlace && s.last-s.first <= api.MaxPlace &&
		s.low >= -api.MaxPlace && s.high <= api.MaxPlace && s.extent() <= api.MaxPlace
}

// check returns the span of a type, or its error.
func (c table) check(t api.Type) (span, api.Errno) {
	if deeper(t, api.MaxDepth) {
		return span{}, api.ErrDeep
	}
	return c.measure(t)
}

// deeper reports whether a type is deeper than limit. It looks no deeper itself, so that it also comes to an end in a type that contains itself.
func deeper(t api.Type, limit int) bool {
	if limit == 0 {
		return true
	}
	for i := range t.Of {
		if deeper(t.Of[i], limit-1) {
			return true
		}
	}
	return false
}

// measure returns the span of a type, or the first error in it, elements of Of first.
func (c table) measure(t api.Type) (span, api.Errno) {
	of := make([]span, len(t.Of))
	for i := range t.Of {
		s, e := c.measure(t.Of[i])
		if e != api.OK {
			return span{}, e
		}
		of[i] = s
	}
	k, known := c[t.Kind]
	switch {
	case !known, len(of) < k.least, len(of) > k.most, !k.plain(t):
		return span{}, api.ErrArg
	case !k.shaped(t):
		return span{}, api.ErrShape
	case !k.fits(t):
		return span{}, api.ErrRange
	case isBasic(t.Kind):
		return basicSpan(t.Kind), api.OK
	}
	s := k.span(t, of)
	switch {
	case s.count > api.MaxEntries:
		return span{}, api.ErrMany
	case !s.near():
		return span{}, api.ErrRange
	}
	return s, api.OK
}

// span returns what a type covers whose elements of Of cover of. It stops at too many entries, as the blocks may be very many; the span is of no use then.
func (k constructor) span(t api.Type, of []span) span {
	var s span
	for b := range k.blocks(t, of[0].extent()) {
		if b.count > 0 {
			s = s.join(of[b.of].row(b.at, b.count))
		}
		if s.count > api.MaxEntries {
			break
		}
	}
	if k.bounds != nil {
		s.low, s.high = k.bounds(t, of[0])
	}
	return s
}
