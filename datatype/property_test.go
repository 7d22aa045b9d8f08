package datatype_test

import (
	"bytes"
	"reflect"
	"slices"
	"testing"

	"armada/api"
	"armada/datatype"
)

// P1.8: unpacking what was packed changes nothing; packing what was unpacked is the data, if no byte belongs to it twice.
func TestData(t *testing.T) {
	memory := []byte("a message-passing supercomputer in simulation, with types that are maps of bytes")
	for _, s := range []string{
		"byte", "vector(2, 2, 3, half)", "vector(2, 2, -3, byte)", "indexed([1, 2], [4, 0], word)", "struct([1, 1], [0, 3], long, byte)",
		"resized([0, 1], half)", "subarray([3, 4], [2, 2], [1, 1], byte)", "struct([2, 1], [0, 9], resized([0, 0], half), byte)",
	} {
		x, count, start := read(t, s), 2, 8
		packed, e := datatype.Pack(x, count, memory, start)
		same, f := datatype.Unpack(x, count, memory, start, packed)
		if e != api.OK || f != api.OK || !bytes.Equal(same, memory) {
			t.Errorf("%s: %q %v %v", s, same, e, f)
		}
		data := make([]byte, len(packed))
		for i := range data {
			data[i] = byte(200 + i)
		}
		written, e := datatype.Unpack(x, count, memory, start, data)
		again, f := datatype.Pack(x, count, written, start)
		over, g := datatype.Overlaps(x, count)
		if e != api.OK || f != api.OK || g != api.OK || bytes.Equal(again, data) == over {
			t.Errorf("%s: %v, %v", s, again, over)
		}
	}
}

// P1.9: parts that follow one another are the whole.
func TestPartsAreTheWhole(t *testing.T) {
	d := dice(9)
	for range 2000 {
		x, count := d.valid(), d.roll(4)
		size, _ := datatype.Size(x)
		whole, e := datatype.Segments(x, count)
		all := bytesIn(whole)
		if e != api.OK || len(all) != size*count {
			t.Fatalf("%d of %+v: %v %v", count, x, whole, e)
		}
		var places []int
		for from := 0; from < len(all); {
			to := from + 1 + d.roll(len(all)-from)
			part, e := datatype.Part(x, count, from, to)
			if e != api.OK {
				t.Fatalf("%d of %+v from %d to %d: %v", count, x, from, to, e)
			}
			places = append(places, bytesIn(part)...)
			from = to
		}
		if !slices.Equal(places, all) {
			t.Fatalf("%d of %+v: %v, not %v", count, x, places, all)
		}
	}
}

// isSame fails if both types are valid and differ, or if only the first one is valid.
func isSame(t *testing.T, x, y api.Type) {
	t.Helper()
	if datatype.Check(x) == api.OK && datatype.Check(y) == api.OK && !datatype.Same(x, y) {
		t.Fatalf("%+v and %+v differ", x, y)
	}
}

// P1.10: constructors that mean the same.
func TestConstructors(t *testing.T) {
	d := dice(10)
	for range 2000 {
		x, n, m := d.valid(), 1+d.roll(5), 1+d.roll(5)
		isSame(t, vector(n, m, m, x), contig(n*m, x))
		isSame(t, contig(n, contig(m, x)), contig(n*m, x))
		sides := d.rolls(1+d.roll(4), 1, 3)
		isSame(t, subarray(sides, sides, make([]int, len(sides)), x), contig(volume(sides), x))
		normal, e := datatype.Normal(x)
		if e != api.OK || !datatype.Same(x, normal) {
			t.Fatalf("%+v: %+v %v", x, normal, e)
		}
	}
	for _, x := range [][2]string{
		{"vector(3, 2, 2, resized([-1, 5], half))", "contig(6, resized([-1, 5], half))"},
		{"contig(3, contig(2, resized([3, 0], half)))", "contig(6, resized([3, 0], half))"},
		{"subarray([2, 3], [2, 3], [0, 0], resized([2, 4], byte))", "contig(6, resized([2, 4], byte))"},
	} {
		if !datatype.Same(read(t, x[0]), read(t, x[1])) {
			t.Errorf("%s and %s differ", x[0], x[1])
		}
	}
}

// P1.10: types have the same normal type exactly if they are the same.
func TestNormalTypesTellTypesApart(t *testing.T) {
	d := dice(11)
	for range 10000 {
		x, y := d.valid(), d.valid()
		if d.roll(2) == 0 {
			y = contig(1, x)
		}
		n, e := datatype.Normal(x)
		m, f := datatype.Normal(y)
		if e != api.OK || f != api.OK || reflect.DeepEqual(n, m) != datatype.Same(x, y) {
			t.Fatalf("%+v and %+v: %+v and %+v", x, y, n, m)
		}
	}
}
