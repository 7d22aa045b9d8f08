package datatype_test

import (
	"bytes"
	"slices"
	"testing"

	"armada/api"
	"armada/datatype"
)

// P1.5: the data that is in memory.
func TestPack(t *testing.T) {
	memory := []byte{10, 11, 12, 13, 14}
	threes, back := resized(0, 3, octet), vector(2, 1, -2, half)
	for _, x := range []struct {
		t      api.Type
		count  int
		memory []byte
		at     int
		want   []byte
		e      api.Errno
	}{
		{threes, 2, memory, 0, []byte{10, 13}, api.OK},
		{threes, 2, memory, 1, []byte{11, 14}, api.OK},
		{threes, 2, memory, 2, nil, api.ErrRange},
		{threes, 2, memory, -1, nil, api.ErrRange},
		{threes, 1, memory, 4, []byte{14}, api.OK},
		{threes, 1, memory, 5, nil, api.ErrRange},
		{threes, 1, nil, 0, nil, api.ErrRange},
		{threes, 2, memory, highest, nil, api.ErrRange},
		{threes, 2, memory, highest - 2, nil, api.ErrRange},
		{threes, 2, memory, lowest, nil, api.ErrRange},
		{threes, 0, nil, 99, nil, api.OK},
		{threes, 0, memory, lowest, nil, api.OK},
		{word, 1, memory, 1, []byte{11, 12, 13, 14}, api.OK},
		{word, 1, memory, 2, nil, api.ErrRange},
		{word, 2, memory, 0, nil, api.ErrRange},
		{back, 1, memory, 3, nil, api.ErrRange},
		{back, 1, append(memory, 15), 4, []byte{14, 15, 10, 11}, api.OK},
		{back, 1, memory, 5, nil, api.ErrRange},
		{back, 1, memory, lowest, nil, api.ErrRange},
		{back, 1, memory, lowest + 4, nil, api.ErrRange},
		{at(-far, octet), 1, memory, far + 4, []byte{14}, api.OK},
		{at(-far, octet), 1, memory, far - 1, nil, api.ErrRange},
		{at(far-1, octet), 1, memory, 1 - far, []byte{10}, api.OK},
		{at(far-1, octet), 1, memory, 6 - far, nil, api.ErrRange},
		{vector(2, 2, 1, octet), 1, memory, 0, []byte{10, 11, 11, 12}, api.OK},
		{indexed(list(1, 2), list(3, 0), octet), 1, memory, 1, []byte{14, 11, 12}, api.OK},
	} {
		if got, e := datatype.Pack(x.t, x.count, x.memory, x.at); e != x.e || !bytes.Equal(got, x.want) {
			t.Errorf("%d of %+v at %d: %v %v", x.count, x.t, x.at, got, e)
		}
	}
}

// P1.5: a copy of memory into which data was written.
func TestUnpack(t *testing.T) {
	memory := []byte{1, 2, 3}
	swap, over := indexed(list(1, 1), list(2, 0), octet), vector(2, 2, 1, octet)
	for _, x := range []struct {
		t     api.Type
		count int
		at    int
		data  []byte
		want  []byte
		e     api.Errno
	}{
		{swap, 1, 0, []byte{8, 9}, []byte{9, 2, 8}, api.OK},
		{swap, 1, 1, []byte{8, 9}, nil, api.ErrRange},
		{swap, 1, -1, []byte{8, 9}, nil, api.ErrRange},
		{swap, 1, highest, []byte{8, 9}, nil, api.ErrRange},
		{swap, 1, lowest, []byte{8, 9}, nil, api.ErrRange},
		{swap, 1, 0, []byte{8}, nil, api.ErrShape},
		{swap, 1, 0, []byte{8, 9, 10}, nil, api.ErrShape},
		{swap, 1, 9, []byte{8}, nil, api.ErrShape},
		{swap, 0, 0, []byte{8}, nil, api.ErrShape},
		{swap, 0, 99, nil, []byte{1, 2, 3}, api.OK},
		{swap, -1, 0, nil, nil, api.ErrRange},
		{swap, 2049, 0, nil, nil, api.ErrMany},
		{api.Type{}, 1, 0, nil, nil, api.ErrArg},
		{over, 1, 0, []byte{5, 6, 7, 8}, []byte{5, 7, 8}, api.OK},
		{resized(0, 0, half), 2, 1, []byte{5, 6, 7, 8}, []byte{1, 7, 8}, api.OK},
		{half, 1, 1, []byte{5, 6}, []byte{1, 5, 6}, api.OK},
		{half, 1, 2, []byte{5, 6}, nil, api.ErrRange},
	} {
		got, e := datatype.Unpack(x.t, x.count, memory, x.at, x.data)
		if e != x.e || !bytes.Equal(got, x.want) {
			t.Errorf("%d of %+v at %d: %v %v", x.count, x.t, x.at, got, e)
		}
		if !bytes.Equal(memory, []byte{1, 2, 3}) {
			t.Fatal("the memory has changed")
		}
	}
	got, _ := datatype.Unpack(swap, 0, memory, 0, nil)
	got[0] = 77
	if memory[0] != 1 {
		t.Error("the result is the memory itself")
	}
}

// P1.5 and P1.8: packing and unpacking agree with the model, and undo each other.
func TestPackAgainstModel(t *testing.T) {
	d := dice(5)
	for range 3000 {
		x, count := d.valid(), d.roll(4)
		m, _ := modelOf(x)
		places := bytesOf(m.elements(count))
		memory, start := make([]byte, 1+d.roll(400)), d.roll(300)-40
		for i := range memory {
			memory[i] = byte(d.roll(256))
		}
		before := slices.Clone(memory)
		packed, e := datatype.Pack(x, count, memory, start)
		want, inside := make([]byte, len(places)), true
		for i, p := range places {
			if inside = inside && p+start >= 0 && p+start < len(memory); inside {
				want[i] = memory[p+start]
			}
		}
		if !inside {
			if e != api.ErrRange || len(packed) != 0 {
				t.Fatalf("%d of %+v at %d: %v %v", count, x, start, packed, e)
			}
			continue
		}
		if e != api.OK || !bytes.Equal(packed, want) {
			t.Fatalf("%d of %+v at %d: %v %v", count, x, start, packed, e)
		}
		if same, e := datatype.Unpack(x, count, memory, start, packed); e != api.OK || !bytes.Equal(same, memory) {
			t.Fatalf("%d of %+v at %d: unpacking changes something, %v", count, x, start, e)
		}
		data := make([]byte, len(places))
		for i := range data {
			data[i] = byte(d.roll(256))
		}
		written, e := datatype.Unpack(x, count, memory, start, data)
		for i, p := range places {
			before[p+start] = data[i]
		}
		if e != api.OK || !bytes.Equal(written, before) {
			t.Fatalf("%d of %+v at %d: %v", count, x, start, e)
		}
		again, e := datatype.Pack(x, count, written, start)
		if over, _ := datatype.Overlaps(x, count); e != api.OK || !over && !bytes.Equal(again, data) {
			t.Fatalf("%d of %+v at %d: %v %v", count, x, start, again, e)
		}
	}
}
