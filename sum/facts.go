package sum

// What a sum can have seen: as bits, which are those of its first byte.
const (
	sawNaN   = 1
	sawPlus  = 2 // +infinity
	sawMinus = 4 // -infinity
	sawAll   = sawNaN | sawPlus | sawMinus
)

// The zero states.
const (
	noNumbers  = 0
	minusZeros = 1
	others     = 2
)

// facts are what a sum knows. Two sums are the same if their facts are equal.
type facts struct {
	total words // the exact sum of the finite numbers, times 2^1074
	saw   byte
	zero  byte
}

// factsOf returns what the sum of one number knows.
func factsOf(number uint64) facts {
	f := facts{zero: others}
	switch {
	case isNaN(number):
		f.saw = sawNaN
	case number == infinity:
		f.saw = sawPlus
	case number == infinity|signBit:
		f.saw = sawMinus
	case number == minusZero:
		f.zero = minusZeros
	default:
		f.total = exact(number)
	}
	return f
}

// join adds the numbers of another sum, and reports whether the exact sum fits.
func (f *facts) join(g facts) bool {
	f.total.add(g.total)
	f.saw |= g.saw
	f.zero = max(f.zero, g.zero)
	return f.total.fits()
}

// value returns the value of the sum.
func (f *facts) value() uint64 {
	switch {
	case f.saw&sawNaN != 0 || f.saw == sawPlus|sawMinus:
		return nan
	case f.saw == sawPlus:
		return infinity
	case f.saw == sawMinus:
		return infinity | signBit
	case f.zero == minusZeros:
		return minusZero
	case f.total.negative():
		return nearest(f.total.opposite()) | signBit
	}
	return nearest(f.total)
}

// possible reports whether a sum can know this: what is other than no number and -0 makes the zero state others.
func (f *facts) possible() bool {
	return f.zero == others || f.zero < others && *f == facts{zero: f.zero}
}

// encode returns the bytes of the sum.
func (f *facts) encode() []byte {
	sign := byte(0)
	if f.total.negative() {
		sign = 1
	}
	return append([]byte{f.saw | f.zero<<3, sign}, f.total.absolute().bytes()...)
}

// decode returns what the sum with some bytes knows, if they are those of a sum; there are from 2 to maxBytes of them.
func decode(b []byte) facts {
	f := facts{wordsOf(b[2:]), b[0] & sawAll, b[0] >> 3}
	if b[1] == 1 {
		f.total = f.total.opposite()
	}
	return f
}
