package sum

import "cmp"

// Real numbers as their bits.
const (
	signBit     = 1 << 63
	fractionLen = 52
	hidden      = 1 << fractionLen // the bit that is not written in front of a fraction
	infinity    = 2047 << fractionLen
	nan         = infinity | 1<<(fractionLen-1) // the one that is a result
	minusZero   = signBit
)

func isNaN(number uint64) bool { return number&^signBit > infinity }

// oneNaN returns the NaN that is a result for each NaN, and all other numbers as they are.
func oneNaN(number uint64) uint64 {
	if isNaN(number) {
		return nan
	}
	return number
}

// Compare compares two real numbers.
func Compare(a, b uint64) int { return cmp.Compare(level(a), level(b)) }

// level returns a number that is greater for greater real numbers: from the sign on, bits count up for positive numbers, and down for negative ones.
func level(number uint64) uint64 {
	number = oneNaN(number)
	if number&signBit != 0 {
		return ^number
	}
	return number | signBit
}

// exact returns a finite number times 2^1074.
func exact(number uint64) words {
	digits, shift := number&(hidden-1), 0
	if exponent := int(number &^ signBit >> fractionLen); exponent > 0 {
		digits, shift = digits|hidden, exponent-1
	}
	var w words
	i, up := shift/64, shift%64
	w[i], w[i+1] = digits<<up, digits>>(64-up)
	if number&signBit != 0 {
		w = w.opposite()
	}
	return w
}

// nearest returns the real number nearest to an integer, which is not negative, times 2^-1074; of two that are equally near, the one whose fraction is even.
func nearest(w words) uint64 {
	drop := w.length() - fractionLen - 1
	if drop <= 0 {
		return w[0] // the bits of small numbers count them
	}
	// The hidden bit of what is kept adds 1 to the exponent; so does rounding up to a power of two.
	number := uint64(drop)<<fractionLen + w.from(drop)
	half := w.from(drop-1)&1 == 1
	if half && (number&1 == 1 || w.anyBelow(drop-1)) {
		number++
	}
	return min(number, infinity)
}
