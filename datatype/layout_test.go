package datatype_test

import (
	"slices"
	"testing"

	"armada/api"
	"armada/datatype"
)

// P1.2: maps, sizes, bounds and the extent of the data.
func TestLayouts(t *testing.T) {
	const b, h, w, l, r = api.Byte, api.Half, api.Word, api.Long, api.Real
	for _, x := range []struct {
		t            api.Type
		entries      []datatype.Entry
		size         int
		low, extent  int
		first, width int
	}{
		{octet, entries(b, 0), 1, 0, 1, 0, 1},
		{half, entries(h, 0), 2, 0, 2, 0, 2},
		{word, entries(w, 0), 4, 0, 4, 0, 4},
		{long, entries(l, 0), 8, 0, 8, 0, 8},
		{real8, entries(r, 0), 8, 0, 8, 0, 8},
		{contig(3, half), entries(h, 0, h, 2, h, 4), 6, 0, 6, 0, 6},
		{contig(2, resized(-4, 16, word)), entries(w, 0, w, 16), 8, -4, 32, 0, 20},
		{contig(3, resized(2, 0, half)), entries(h, 0, h, 0, h, 0), 6, 2, 0, 0, 2},
		{vector(2, 1, 2, word), entries(w, 0, w, 8), 8, 0, 12, 0, 12},
		{vector(2, 2, -3, octet), entries(b, 0, b, 1, b, -3, b, -2), 4, -3, 5, -3, 5},
		{vector(3, 2, 0, half), entries(h, 0, h, 2, h, 0, h, 2, h, 0, h, 2), 12, 0, 4, 0, 4},
		{vector(2, 1, 3, resized(1, 5, octet)), entries(b, 0, b, 15), 2, 1, 20, 0, 16},
		{indexed(list(2, 0, 1), list(3, 9, 0), half), entries(h, 6, h, 8, h, 0), 6, 0, 10, 0, 10},
		{indexed(list(1), list(-2), resized(0, 3, half)), entries(h, -6), 2, -6, 3, -6, 2},
		{structure(list(1, 2), list(0, 8), word, octet), entries(w, 0, b, 8, b, 9), 6, 0, 10, 0, 10},
		{structure(list(1, 2), list(9, -4), octet, resized(-1, 3, half)), entries(b, 9, h, -4, h, -1), 5, -5, 15, -4, 14},
		{structure(list(0, 1), list(-9, 4), long, octet), entries(b, 4), 1, 4, 1, 4, 1},
		{structure(list(2), list(-1), resized(0, 0, octet)), entries(b, -1, b, -1), 2, -1, 0, -1, 1},
		{resized(-4, 16, word), entries(w, 0), 4, -4, 16, 0, 4},
		{resized(7, 1, long), entries(l, 0), 8, 7, 1, 0, 8},
		{subarray(list(2, 3), list(2, 1), list(0, 1), half), entries(h, 2, h, 8), 4, 0, 12, 2, 8},
		{subarray(list(4), list(2), list(1), resized(-1, 2, octet)), entries(b, 2, b, 4), 2, -1, 8, 2, 3},
		{subarray(list(2, 2, 2), list(1, 2, 1), list(1, 0, 1), octet), entries(b, 5, b, 7), 2, 0, 8, 5, 3},
		{subarray(list(3, 2, 2, 4), list(2, 1, 2, 2), list(1, 1, 0, 1), octet), entries(b, 25, b, 26, b, 29, b, 30, b, 41, b, 42, b, 45, b, 46), 8, 0, 48, 25, 22},
	} {
		m, e := datatype.Map(x.t)
		size, f := datatype.Size(x.t)
		low, extent, g := datatype.Bounds(x.t)
		first, width, h := datatype.Tight(x.t)
		if e != api.OK || f != api.OK || g != api.OK || h != api.OK {
			t.Errorf("%+v: %v, %v, %v, %v", x.t, e, f, g, h)
		}
		if !slices.Equal(m, x.entries) || size != x.size || low != x.low || extent != x.extent || first != x.first || width != x.width {
			t.Errorf("%+v: %v, %d, %d %d, %d %d", x.t, m, size, low, extent, first, width)
		}
	}
}

// P1.2: the same layout as the model's.
func TestLayoutsAgainstModel(t *testing.T) {
	d := dice(2)
	for range 5000 {
		x := d.tree(1 + d.roll(5))
		m, want := modelOf(x)
		l, e := datatype.Map(x)
		low, extent, f := datatype.Bounds(x)
		if e != want || f != want || !slices.Equal(l, m.entries) || low != m.low || extent != m.extent() {
			t.Fatalf("%+v: %v, %d %d, %v, not %+v, %v", x, l, low, extent, e, m, want)
		}
		if want != api.OK {
			continue
		}
		places := bytesOf(m.entries)
		first, width, _ := datatype.Tight(x)
		if size, _ := datatype.Size(x); size != len(places) || first != slices.Min(places) || width != slices.Max(places)+1-first {
			t.Fatalf("%+v: %d, %d %d", x, size, first, width)
		}
	}
}

// P1.2: the errors of Check.
func TestLayoutErrors(t *testing.T) {
	for _, x := range invalid() {
		m, e := datatype.Map(x.t)
		size, f := datatype.Size(x.t)
		low, extent, g := datatype.Bounds(x.t)
		first, width, h := datatype.Tight(x.t)
		if e != x.want || f != x.want || g != x.want || h != x.want {
			t.Errorf("%s: %v, %v, %v, %v", x.name, e, f, g, h)
		}
		if len(m) != 0 || size != 0 || low != 0 || extent != 0 || first != 0 || width != 0 {
			t.Errorf("%s: a result beside an error", x.name)
		}
	}
}

// invalid returns a type for each error of Check.
func invalid() []checkCase {
	return []checkCase{
		{"kind", api.Type{}, api.ErrArg},
		{"field", api.Type{Kind: api.Word, Stride: 3}, api.ErrArg},
		{"shape", indexed(list(1), nil, octet), api.ErrShape},
		{"number", contig(0, octet), api.ErrRange},
		{"many", vector(65, 64, 70, octet), api.ErrMany},
		{"far", at(far, octet), api.ErrRange},
		{"deep", nested(9), api.ErrDeep},
	}
}

// counted calls all functions that take a number of elements, and returns their errors and whether one of them has a result beside an error.
func counted(x api.Type, count int) (l []api.Errno, zero bool) {
	m, _ := datatype.Map(x)
	size := 0
	for _, y := range m {
		size += kindSize(y.Kind)
	}
	memory, data := make([]byte, 2*far+64), make([]byte, size*max(0, min(count, 4096)))
	runs, a := datatype.Signature(x, count)
	whole, b := datatype.Segments(x, count)
	part, c := datatype.Part(x, count, 0, 0)
	over, d := datatype.Overlaps(x, count)
	packed, e := datatype.Pack(x, count, memory, far)
	again, f := datatype.Unpack(x, count, memory, far, data)
	return []api.Errno{a, b, c, d, e, f}, len(runs)+len(whole)+len(part)+len(packed)+len(again) == 0 && !over
}

// P1.3: the errors of Check, then those of the number of elements.
func TestCountErrors(t *testing.T) {
	three := contig(3, octet)
	type row struct {
		name  string
		t     api.Type
		count int
		want  api.Errno
	}
	var rows []row
	for _, x := range invalid() {
		rows = append(rows, row{x.name, x.t, 1, x.want}, row{x.name, x.t, -1, x.want}, row{x.name, x.t, highest, x.want})
	}
	rows = append(rows,
		row{"none", three, 0, api.OK},
		row{"none of a type that would be far", resized(0, far, three), 0, api.OK},
		row{"as many as there can be", three, 1365, api.OK},
		row{"too many", three, 1366, api.ErrMany},
		row{"too many", octet, 4097, api.ErrMany},
		row{"as many as there can be", octet, 4096, api.OK},
		row{"as many as the type has", contig(4096, octet), 1, api.OK},
		row{"too many", contig(4096, octet), 2, api.ErrMany},
		row{"very many", three, highest, api.ErrMany},
		row{"so many that their entries would wrap around", contig(4, octet), 1 << 62, api.ErrMany},
		row{"so many that their entries would wrap around", contig(16, octet), 1<<60 + 1, api.ErrMany},
		row{"too many and too far", resized(0, far, three), 1366, api.ErrMany},
		row{"less than none", three, -1, api.ErrRange},
		row{"much less than none", resized(0, far, three), lowest, api.ErrRange},
		row{"the last entry is as far as it can be", resized(0, far, octet), 2, api.OK},
		row{"bytes and bounds may be farther", resized(0, far, long), 2, api.OK},
		row{"too far", resized(0, far, octet), 3, api.ErrRange},
		row{"too far by one", at(1, resized(-1, far, octet)), 2, api.ErrRange},
		row{"the last of many entries is as far as it can be", resized(0, 257, contig(2, octet)), 2048, api.OK},
		row{"an earlier entry is too far", indexed(list(1, 1), list(1, 0), resized(0, far/2, octet)), 3, api.ErrRange},
		row{"elements that do not move", resized(-far, 0, octet), 4096, api.OK},
		row{"the first is as far as it can be to the left", at(-far, octet), 4096, api.OK},
	)
	for _, x := range rows {
		l, zero := counted(x.t, x.count)
		for i, e := range l {
			if e != x.want {
				t.Errorf("%s, function %d: %v, not %v", x.name, i, e, x.want)
			}
		}
		if x.want != api.OK && !zero {
			t.Errorf("%s: a result beside an error", x.name)
		}
	}
}

// P1.3: runs of basic kinds.
func TestSignature(t *testing.T) {
	const b, h, w, l, r = api.Byte, api.Half, api.Word, api.Long, api.Real
	for _, x := range []struct {
		t     api.Type
		count int
		want  []datatype.Run
	}{
		{structure(list(2, 1), list(0, 8), word, real8), 2, runs(w, 2, r, 1, w, 2, r, 1)},
		{structure(list(1, 1, 1), list(0, 9, 2), half, half, octet), 1, runs(h, 2, b, 1)},
		{structure(list(1, 1, 1), list(0, 9, 2), half, octet, half), 3, runs(h, 1, b, 1, h, 2, b, 1, h, 2, b, 1, h, 1)},
		{structure(list(1, 1), list(0, 0), long, real8), 1, runs(l, 1, r, 1)},
		{vector(4, 2, -7, word), 5, runs(w, 40)},
		{octet, 4096, runs(b, 4096)},
		{octet, 0, nil},
		{structure(list(1, 0, 1), list(0, 0, 0), half, octet, half), 1, runs(h, 2)},
	} {
		if got, e := datatype.Signature(x.t, x.count); e != api.OK || !slices.Equal(got, x.want) {
			t.Errorf("%+v: %v %v", x.t, got, e)
		}
	}
}

// P1.3: segments are as long as possible, in the order of the data.
func TestSegments(t *testing.T) {
	for _, x := range []struct {
		t     api.Type
		count int
		want  []api.Segment
	}{
		{structure(list(1, 2), list(0, 8), word, octet), 2, segs(0, 4, 8, 6, 18, 2)},
		{vector(2, 2, 2, long), 2, segs(0, 64)},
		{vector(2, 2, -2, octet), 1, segs(0, 2, -2, 2)},
		{vector(2, 2, 1, octet), 1, segs(0, 2, 1, 2)},
		{indexed(list(1, 1), list(2, 0), octet), 1, segs(2, 1, 0, 1)},
		{structure(list(1, 1), list(0, 2), half, word), 1, segs(0, 6)},
		{structure(list(1, 1), list(4, 0), half, word), 1, segs(4, 2, 0, 4)},
		{resized(0, 0, half), 3, segs(0, 2, 0, 2, 0, 2)},
		{resized(-3, 5, half), 2, segs(0, 2, 5, 2)},
		{octet, 0, nil},
		{real8, 512, segs(0, 4096)},
	} {
		if got, e := datatype.Segments(x.t, x.count); e != api.OK || !slices.Equal(got, x.want) {
			t.Errorf("%+v: %v %v", x.t, got, e)
		}
	}
}

// P1.3: whether two entries, or bytes of them, are at the same place.
func TestOverlaps(t *testing.T) {
	for _, x := range []struct {
		t     api.Type
		count int
		want  bool
	}{
		{resized(0, 1, half), 2, true},
		{resized(0, 1, half), 1, false},
		{resized(0, 1, half), 0, false},
		{resized(0, 2, half), 4, false},
		{vector(2, 2, 1, octet), 1, true},
		{vector(2, 2, -1, octet), 1, true},
		{vector(2, 2, -2, octet), 1, false},
		{vector(2, 1, 2, half), 2, false},
		{resized(0, 4, vector(2, 1, 2, half)), 2, true},
		{vector(2, 1, 2, half), 1, false},
		{structure(list(1, 1), list(0, 7), long, octet), 1, true},
		{structure(list(1, 1), list(0, 8), long, octet), 1, false},
		{structure(list(1, 1), list(7, 0), octet, real8), 1, true},
		{structure(list(1, 1), list(-1, 0), octet, real8), 1, false},
		{structure(list(1, 1, 1), list(0, 20, 3), long, octet, octet), 1, true},
		{structure(list(1, 1), list(3, 3), octet, octet), 1, true},
		{structure(list(1, 0), list(3, 3), octet, octet), 1, false},
		{resized(0, 0, octet), 2, true},
		{resized(0, 12, vector(2, 1, 2, word)), 9, false},
		{resized(0, 4, vector(2, 1, 2, word)), 2, false},
		{resized(0, 8, vector(2, 1, 2, word)), 2, true},
	} {
		if got, e := datatype.Overlaps(x.t, x.count); e != api.OK || got != x.want {
			t.Errorf("%+v: %v %v", x.t, got, e)
		}
	}
}

// P1.3: the same answers as the model's.
func TestCountsAgainstModel(t *testing.T) {
	d := dice(3)
	for range 3000 {
		x, count := d.valid(), d.roll(5)
		m, _ := modelOf(x)
		l := m.elements(count)
		places := bytesOf(l)
		got, e := datatype.Segments(x, count)
		if e != api.OK || !slices.Equal(got, joined(places)) {
			t.Fatalf("%d of %+v: %v %v", count, x, got, e)
		}
		sorted := slices.Clone(places)
		slices.Sort(sorted)
		over, e := datatype.Overlaps(x, count)
		if e != api.OK || over == (len(slices.Compact(sorted)) == len(places)) {
			t.Fatalf("%d of %+v: %v %v", count, x, over, e)
		}
		kinds, e := datatype.Signature(x, count)
		var all []int
		for i, r := range kinds {
			if i > 0 && kinds[i-1].Kind == r.Kind || r.Count < 1 {
				t.Fatalf("%d of %+v: %v", count, x, kinds)
			}
			all = append(all, times(r.Count, r.Kind)...)
		}
		if e != api.OK || !slices.EqualFunc(all, l, func(kind int, y datatype.Entry) bool { return kind == y.Kind }) {
			t.Fatalf("%d of %+v: %v %v", count, x, kinds, e)
		}
	}
}

// P1.4: parts of the data.
func TestPart(t *testing.T) {
	v := vector(2, 1, 2, word)
	for _, x := range []struct {
		t               api.Type
		count, from, to int
		want            []api.Segment
		e               api.Errno
	}{
		{v, 1, 2, 6, segs(2, 2, 8, 2), api.OK},
		{v, 1, 0, 8, segs(0, 4, 8, 4), api.OK},
		{v, 1, 0, 4, segs(0, 4), api.OK},
		{v, 1, 4, 8, segs(8, 4), api.OK},
		{v, 1, 3, 5, segs(3, 1, 8, 1), api.OK},
		{v, 1, 5, 6, segs(9, 1), api.OK},
		{v, 1, 4, 4, nil, api.OK},
		{v, 1, 8, 8, nil, api.OK},
		{v, 1, 0, 0, nil, api.OK},
		{v, 2, 6, 14, segs(10, 6, 20, 2), api.OK},
		{v, 0, 0, 0, nil, api.OK},
		{v, 0, 0, 1, nil, api.ErrRange},
		{v, 1, 0, 9, nil, api.ErrRange},
		{v, 1, 9, 9, nil, api.ErrRange},
		{v, 1, 3, 2, nil, api.ErrRange},
		{v, 1, -1, 2, nil, api.ErrRange},
		{v, 1, -2, -1, nil, api.ErrRange},
		{v, 1, lowest, highest, nil, api.ErrRange},
		{v, 1, 0, highest, nil, api.ErrRange},
		{v, 1, highest, lowest, nil, api.ErrRange},
		{v, 2049, 3, 2, nil, api.ErrMany},
		{v, -1, 0, 0, nil, api.ErrRange},
		{v, 2048, 1, 2, segs(1, 1), api.OK},
		{contig(0, octet), 1, 3, 2, nil, api.ErrRange},
		{api.Type{}, 1, 3, 2, nil, api.ErrArg},
		{resized(0, 0, half), 2, 1, 3, segs(1, 1, 0, 1), api.OK},
	} {
		if got, e := datatype.Part(x.t, x.count, x.from, x.to); e != x.e || !slices.Equal(got, x.want) {
			t.Errorf("%d of %+v from %d to %d: %v %v", x.count, x.t, x.from, x.to, got, e)
		}
	}
}

// P1.4: each part of small types.
func TestPartAgainstModel(t *testing.T) {
	d := dice(4)
	for range 300 {
		x, count := d.valid(), d.roll(3)
		m, _ := modelOf(x)
		places := bytesOf(m.elements(count))
		for range 30 {
			from := d.roll(len(places) + 1)
			to := from + d.roll(len(places)+1-from)
			if got, e := datatype.Part(x, count, from, to); e != api.OK || !slices.Equal(got, joined(places[from:to])) {
				t.Fatalf("%d of %+v from %d to %d: %v %v", count, x, from, to, got, e)
			}
		}
	}
}
