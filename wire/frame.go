package wire

// Sum returns the sum of bytes.
func Sum(b []byte) uint16 {
	r := uint16(65535)
	double := func() {
		high := r >= 32768
		r *= 2
		if high {
			r ^= 4129
		}
	}
	for _, x := range b {
		r ^= uint16(x) << 8
		for range 8 {
			double()
		}
	}
	return r
}

// Right reports whether a frame is right.
func Right(frame []byte) bool {
	n := len(frame) - 2
	return n >= 0 && Sum(frame[:n]) == uint16(frame[n])<<8+uint16(frame[n+1])
}

// frameOf returns the frame of bytes, in new memory.
func frameOf(b []byte) []byte {
	sum := Sum(b)
	out := make([]byte, 0, len(b)+2)
	return append(append(out, b...), byte(sum>>8), byte(sum))
}
