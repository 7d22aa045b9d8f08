package sum

import (
	"math/bits"
	"slices"
)

// wordCount is how many words an exact sum has: 35 for its absolute value, which is below 2^2240, and one for its sign.
const wordCount = 36

// words is an integer in two's complement, the lowest word first.
type words [wordCount]uint64

// add adds another integer, modulo 2^2304.
func (w *words) add(x words) {
	carry := uint64(0)
	for i := range w {
		w[i], carry = bits.Add64(w[i], x[i], carry)
	}
}

// opposite returns the integer with the other sign.
func (w words) opposite() words {
	borrow := uint64(0)
	for i := range w {
		w[i], borrow = bits.Sub64(0, w[i], borrow)
	}
	return w
}

func (w words) negative() bool { return w[wordCount-1]>>63 != 0 }

func (w words) absolute() words {
	if w.negative() {
		return w.opposite()
	}
	return w
}

// fits reports whether the absolute value of an integer leaves the highest word free.
func (w words) fits() bool { return w.absolute()[wordCount-1] == 0 }

// length returns how many bits an integer has, which is not negative.
func (w words) length() int {
	for i, x := range slices.Backward(w[:]) {
		if x != 0 {
			return 64*i + bits.Len64(x)
		}
	}
	return 0
}

// from returns 64 bits, the lowest of which is the bit n. None of them is in the sign's word alone.
func (w words) from(n int) uint64 {
	i, down := n/64, n%64
	return w[i]>>down | w[i+1]<<(64-down)
}

// anyBelow reports whether one of the lowest n bits is set.
func (w words) anyBelow(n int) bool {
	i, up := n/64, n%64
	return w[i]<<(64-up) != 0 || slices.ContainsFunc(w[:i], func(x uint64) bool { return x != 0 })
}

// bytes returns an integer, which is not negative, in as few bytes as possible, the highest one first.
func (w words) bytes() []byte {
	n := (w.length() + 7) / 8
	out := make([]byte, n)
	for at := range n {
		out[n-1-at] = byte(w[at/8] >> (at % 8 * 8))
	}
	return out
}

// wordsOf returns the integer with some bytes, the highest one first, for which there is room.
func wordsOf(b []byte) words {
	var w words
	for at := range b {
		w[at/8] |= uint64(b[len(b)-1-at]) << (at % 8 * 8)
	}
	return w
}
