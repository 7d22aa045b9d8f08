package wire_test

import (
	"slices"
	"testing"

	"armada/wire"
)

// P5.1: the sum of bytes.
func TestSum(t *testing.T) {
	for _, x := range []struct {
		bytes string
		want  uint16
	}{
		{"", 65535}, // the chapter's examples
		{"123456789", 10673},
		{"\x00", 57840},
		{"\xff", 65280},
		{"A", 47381},
	} {
		if got := wire.Sum([]byte(x.bytes)); got != x.want {
			t.Errorf("Sum of %q: %d, not %d", x.bytes, got, x.want)
		}
	}
	if wire.Sum(nil) != 65535 {
		t.Error("Sum of nil:", wire.Sum(nil))
	}
}

// P5.1: Sum is what the model says, for bytes of all kinds, also for many.
func TestSumLikeTheModel(t *testing.T) {
	for x := range 256 {
		for _, b := range [][]byte{{byte(x)}, {byte(x), 7}, {7, byte(x)}, {0, 0, byte(x)}} {
			if got := wire.Sum(b); got != modelSum(b) {
				t.Fatal(b, got)
			}
		}
	}
	d := dice(1)
	for n := range 300 {
		b := d.bytes(n)
		if got := wire.Sum(b); got != modelSum(b) {
			t.Fatal(b, got)
		}
	}
	if b := d.bytes(10000); wire.Sum(b) != modelSum(b) {
		t.Error("Sum of many bytes")
	}
}

// P5.1: which bytes are a frame that is right.
func TestRight(t *testing.T) {
	for _, x := range []struct {
		frame []byte
		want  bool
	}{
		{nil, false},
		{[]byte{}, false},
		{[]byte{0}, false},
		{[]byte{255}, false},
		{[]byte{255, 255}, true},
		{[]byte{0, 0}, false},
		{[]byte{255, 254}, false},
		{[]byte{254, 255}, false},
		{append([]byte("123456789"), 41, 177), true},
		{append([]byte("123456789"), 177, 41), false},
		{[]byte("123456789"), false},
		{append([]byte("123456788"), 41, 177), false},
		{append([]byte("0123456789"), 41, 177), false},
		{append([]byte("123456789"), 41, 177, 1), false},
		{append([]byte("123456789"), 41, 177, 0), true}, // the sum of a byte more is 177, 0
		{append([]byte("123456789"), 41), false},
	} {
		if got := wire.Right(x.frame); got != x.want {
			t.Error(x.frame, got)
		}
	}
	d := dice(2)
	for n := range 200 {
		frame := modelFrame(d.bytes(n))
		if !wire.Right(frame) {
			t.Error("not right:", frame)
		}
		for range 20 {
			other := d.bytes(n + 2)
			if want := slices.Equal(other, modelFrame(other[:n])); wire.Right(other) != want {
				t.Error(other)
			}
		}
	}
	for sum := range 1 << 16 {
		if frame := []byte{1, 2, 3, byte(sum >> 8), byte(sum)}; wire.Right(frame) != (uint16(sum) == modelSum(frame[:3])) {
			t.Error(frame)
		}
	}
}

func invert(frame []byte, bit int) { frame[bit/8] ^= 1 << (bit % 8) }

// P5.4: a frame with one, two or three bits inverted is not right: all of them for short frames, and all with one or two for the longest.
func TestInvertedBits(t *testing.T) {
	d := dice(3)
	for _, n := range list(0, 1, 2, 7, 30, 63, wire.MaxData) {
		frame := modelFrame(d.bytes(n))
		bits := 8 * len(frame)
		wrong := func(inverted ...int) {
			if wire.Right(frame) {
				t.Fatal("a frame of", len(frame), "bytes is right with the inverted bits", inverted)
			}
		}
		for i := range bits {
			invert(frame, i)
			wrong(i)
			for j := range i {
				invert(frame, j)
				wrong(i, j)
				for k := range j {
					if n > 8 && d.roll(300) != 0 {
						continue
					}
					invert(frame, k)
					wrong(i, j, k)
					invert(frame, k)
				}
				invert(frame, j)
			}
			invert(frame, i)
		}
		if !wire.Right(frame) {
			t.Fatal("not restored")
		}
	}
}
