package datatype_test

import (
	"slices"

	"armada/api"
	"armada/datatype"
)

// The model is the chapter's text, word by word and without a thought of speed. The tests compare the package with it.

type model struct {
	entries   []datatype.Entry
	low, high int
}

func kindSize(kind int) int {
	switch kind {
	case api.Byte:
		return 1
	case api.Half:
		return 2
	case api.Word:
		return 4
	}
	return 8
}

func (m model) extent() int { return m.high - m.low }

func (m model) moved(by int) model {
	out := model{low: m.low + by, high: m.high + by}
	for _, x := range m.entries {
		out.entries = append(out.entries, datatype.Entry{Kind: x.Kind, At: x.At + by})
	}
	return out
}

func together(l []model) model {
	out := l[0]
	out.entries = slices.Clone(out.entries)
	for _, m := range l[1:] {
		out.entries = append(out.entries, m.entries...)
		out.low, out.high = min(out.low, m.low), max(out.high, m.high)
	}
	return out
}

// parts returns what the table of the chapter says is put together.
func parts(t api.Type, of []model) []model {
	var out []model
	e := of[0].extent()
	switch t.Kind {
	case api.Contig:
		for i := range t.Count {
			out = append(out, of[0].moved(i*e))
		}
	case api.Vector:
		for i := range t.Count {
			for j := range t.Block {
				out = append(out, of[0].moved((i*t.Stride+j)*e))
			}
		}
	case api.Indexed:
		for i := range t.Blocks {
			for j := range t.Blocks[i] {
				out = append(out, of[0].moved((t.Places[i]+j)*e))
			}
		}
	case api.Struct:
		for i := range t.Blocks {
			for j := range t.Blocks[i] {
				out = append(out, of[i].moved(t.Places[i]+j*of[i].extent()))
			}
		}
	case api.Resized:
		out = append(out, of[0])
	case api.Subarray:
		c := make([]int, len(t.Sizes))
		for n := range volume(t.Sizes) {
			rest, inside := n, true
			for k := len(c) - 1; k >= 0; k-- {
				c[k] = rest % t.Sizes[k]
				rest /= t.Sizes[k]
				inside = inside && t.Places[k] <= c[k] && c[k] < t.Places[k]+t.Blocks[k]
			}
			if inside {
				out = append(out, of[0].moved(n*e))
			}
		}
	}
	return out
}

func volume(l []int) int {
	n := 1
	for _, x := range l {
		n *= x
	}
	return n
}

func isBasic(kind int) bool { return kind >= api.Byte && kind <= api.Real }

func depthOf(t api.Type) int {
	most := 0
	for _, x := range t.Of {
		most = max(most, depthOf(x))
	}
	return most + 1
}

// modelOf returns the model of a type, or the error that Check returns.
func modelOf(t api.Type) (model, api.Errno) {
	if depthOf(t) > 8 {
		return model{}, api.ErrDeep
	}
	return modelOfTree(t)
}

func modelOfTree(t api.Type) (model, api.Errno) {
	var of []model
	for _, x := range t.Of {
		m, e := modelOfTree(x)
		if e != api.OK {
			return model{}, e
		}
		of = append(of, m)
	}
	if e := fieldError(t); e != api.OK {
		return model{}, e
	}
	if isBasic(t.Kind) {
		return model{entries(t.Kind, 0), 0, kindSize(t.Kind)}, api.OK
	}
	if entryCount(t, of) > 4096 {
		return model{}, api.ErrMany
	}
	if t.Kind == api.Subarray && volume(t.Sizes) > far { // too many coordinates to look at
		if of[0].extent() > 0 {
			return model{}, api.ErrRange
		}
		return model{together(times(volume(t.Blocks), of[0])).entries, of[0].low, of[0].low}, api.OK
	}
	m := together(parts(t, of))
	switch t.Kind {
	case api.Resized:
		m.low, m.high = t.Places[0], t.Places[0]+t.Places[1]
	case api.Subarray:
		m.low, m.high = of[0].low, of[0].low+of[0].extent()*volume(t.Sizes)
	}
	return m, m.rangeError()
}

func (m model) rangeError() api.Errno {
	l := []int{m.low, m.high, m.extent()}
	first, last := m.entries[0].At, m.entries[0].At
	for _, x := range m.entries {
		end := x.At + kindSize(x.Kind)
		first, last = min(first, x.At), max(last, end)
		l = append(l, x.At, end)
	}
	for _, x := range append(l, last-first) {
		if x < -far || x > far {
			return api.ErrRange
		}
	}
	return api.OK
}

func entryCount(t api.Type, of []model) int {
	n := len(of[0].entries)
	switch t.Kind {
	case api.Contig:
		return t.Count * n
	case api.Vector:
		return t.Count * t.Block * n
	case api.Subarray:
		return volume(t.Blocks) * n
	case api.Resized:
		return n
	}
	sum := 0
	for i, b := range t.Blocks {
		sum += b * len(of[min(i, len(of)-1)].entries)
	}
	return sum
}

// fieldError returns the errors of one type that its fields alone show.
func fieldError(t api.Type) api.Errno {
	sizes, blocks, places := len(t.Sizes), len(t.Blocks), len(t.Places)
	numbers := t.Count != 0 || t.Block != 0 || t.Stride != 0
	one := len(t.Of) == 1
	switch {
	case isBasic(t.Kind):
		return first(bad(numbers || sizes+blocks+places+len(t.Of) > 0, api.ErrArg))
	case t.Kind == api.Contig:
		return first(bad(t.Block != 0 || t.Stride != 0 || sizes+blocks+places > 0 || !one, api.ErrArg), bad(out(t.Count, 1, 4096), api.ErrRange))
	case t.Kind == api.Vector:
		return first(bad(sizes+blocks+places > 0 || !one, api.ErrArg), bad(out(t.Count, 1, 4096) || out(t.Block, 1, 4096) || out(t.Stride, -far, far), api.ErrRange))
	case t.Kind == api.Indexed:
		return first(bad(numbers || sizes > 0 || !one, api.ErrArg), bad(blocks != places || out(blocks, 1, 4096), api.ErrShape), blockError(t))
	case t.Kind == api.Struct:
		return first(bad(numbers || sizes > 0 || out(len(t.Of), 1, 4096), api.ErrArg), bad(blocks != len(t.Of) || places != len(t.Of), api.ErrShape), blockError(t))
	case t.Kind == api.Resized:
		return first(bad(numbers || sizes+blocks > 0 || !one, api.ErrArg), bad(places != 2, api.ErrShape), placeError(t), bad(places == 2 && t.Places[1] < 0, api.ErrRange))
	case t.Kind == api.Subarray:
		return first(bad(numbers || !one, api.ErrArg), bad(sizes != blocks || sizes != places || out(sizes, 1, 4), api.ErrShape), sideError(t))
	}
	return api.ErrArg
}

func first(l ...api.Errno) api.Errno {
	for _, e := range l {
		if e != api.OK {
			return e
		}
	}
	return api.OK
}

func bad(is bool, e api.Errno) api.Errno {
	if is {
		return e
	}
	return api.OK
}

func out(n, from, to int) bool { return n < from || n > to }

func placeError(t api.Type) api.Errno {
	for _, p := range t.Places {
		if out(p, -far, far) {
			return api.ErrRange
		}
	}
	return api.OK
}

func blockError(t api.Type) api.Errno {
	most := 0
	for _, b := range t.Blocks {
		if out(b, 0, 4096) {
			return api.ErrRange
		}
		most = max(most, b)
	}
	return first(bad(most == 0, api.ErrRange), placeError(t))
}

func sideError(t api.Type) api.Errno {
	if len(t.Sizes) != len(t.Blocks) || len(t.Sizes) != len(t.Places) {
		return api.OK
	}
	for i, s := range t.Sizes {
		if out(s, 1, 4096) || out(t.Blocks[i], 1, s) || out(t.Places[i], 0, s-t.Blocks[i]) {
			return api.ErrRange
		}
	}
	return api.OK
}

// elements returns the entries of count elements.
func (m model) elements(count int) []datatype.Entry {
	var l []datatype.Entry
	for i := range count {
		l = append(l, m.moved(i*m.extent()).entries...)
	}
	return l
}

// bytesOf returns the places of the bytes of the data.
func bytesOf(l []datatype.Entry) []int {
	var places []int
	for _, x := range l {
		for j := range kindSize(x.Kind) {
			places = append(places, x.At+j)
		}
	}
	return places
}

// joined returns the segments of bytes at places.
func joined(places []int) []api.Segment {
	var l []api.Segment
	for _, p := range places {
		if n := len(l); n > 0 && l[n-1].At+l[n-1].Len == p {
			l[n-1].Len++
		} else {
			l = append(l, api.Segment{At: p, Len: 1})
		}
	}
	return l
}

// bytesIn returns the places of the bytes of segments.
func bytesIn(l []api.Segment) []int {
	var places []int
	for _, s := range l {
		for j := range s.Len {
			places = append(places, s.At+j)
		}
	}
	return places
}
