package sum_test

import (
	"math"
	"slices"
	"testing"

	"armada/api"
	"armada/sum"
)

const (
	highest = int(^uint(0) >> 1)
	lowest  = -highest - 1

	// Real numbers as their bits.
	nan       = 9221120237041090560
	plusInf   = 2047 << 52
	minusInf  = 1<<63 | plusInf
	minusZero = 1 << 63
	least     = 1           // 2^-1074
	greatest  = plusInf - 1 // 2^1024 - 2^971
)

// bits returns the bits of real numbers.
func bits(l ...float64) []uint64 {
	out := make([]uint64, len(l))
	for i, f := range l {
		out[i] = math.Float64bits(f)
	}
	return out
}

// power returns the bits of 2^n, which is a real number.
func power(n int) uint64 { return math.Float64bits(math.Ldexp(1, n)) }

// opposite returns a real number with the other sign.
func opposite(number uint64) uint64 { return number ^ minusZero }

// values returns values without places that have some bits.
func values(l ...uint64) []api.Value {
	out := make([]api.Value, len(l))
	for i, x := range l {
		out[i].Bits = x
	}
	return out
}

// integers returns values that are integers.
func integers(l ...int64) []api.Value {
	out := make([]api.Value, len(l))
	for i, n := range l {
		out[i].Bits = uint64(n)
	}
	return out
}

func pair(n, place int64) api.Value { return api.Value{Bits: uint64(n), Place: place} }

// oddIntegers returns integers at the edges of their range, and some others.
func oddIntegers() []int64 {
	return []int64{math.MinInt64, math.MinInt64 + 1, -1 << 32, -7, -2, -1, 0, 1, 2, 3, 4, 1<<32 + 1, 1 << 62, math.MaxInt64 - 1, math.MaxInt64}
}

// oddReals returns real numbers other than NaN at the edges of their classes, ascending.
func oddReals() []uint64 {
	var up []uint64 // from +0 on
	for _, number := range []uint64{0, least, 2, 1<<51 + 3, 1<<52 - 1, 1 << 52, 1<<52 + 1, 2<<52 - 1, 2 << 52, power(-60), power(-53), power(-53) + 1, power(-1), power(0) - 1, power(0), power(0) + 1,
		math.Float64bits(math.Pi), power(53) - 1, power(53), power(53) + 1, power(970) - 1, power(970), power(971), power(1023), greatest - 1, greatest, plusInf} {
		up = append(up, number)
	}
	var down []uint64
	for _, number := range slices.Backward(up) {
		down = append(down, opposite(number))
	}
	return append(down, up...)
}

// oddNaNs returns some of the NaNs.
func oddNaNs() []uint64 {
	return []uint64{nan, plusInf + 1, plusInf + 12345, 1<<63 - 1, minusInf + 1, opposite(nan), 1<<64 - 1}
}

// sumOf returns the sum of some numbers.
func sumOf(t *testing.T, numbers ...uint64) *sum.Acc {
	t.Helper()
	a := sum.New()
	for _, number := range numbers {
		add(t, a, number)
	}
	return a
}

func add(t *testing.T, a *sum.Acc, number uint64) {
	t.Helper()
	if e := a.Add(number); e != api.OK {
		t.Fatalf("Add of %x: %v", number, e)
	}
}

func merge(t *testing.T, a, b *sum.Acc) {
	t.Helper()
	if e := a.Merge(b); e != api.OK {
		t.Fatalf("Merge: %v", e)
	}
}

// decoded returns the sum with some bytes.
func decoded(t *testing.T, b []byte) *sum.Acc {
	t.Helper()
	a, e := sum.Decode(b)
	if e != api.OK || a == nil {
		t.Fatalf("Decode of %v: %v", b, e)
	}
	return a
}

// encoded returns the bytes of a sum.
func encoded(t *testing.T, a *sum.Acc) []byte {
	t.Helper()
	b, e := a.Encode()
	if e != api.OK {
		t.Fatalf("Encode: %v", e)
	}
	return b
}

// largest returns the bytes of the sum with the greatest absolute value of S, 2^1166 - 2^-1074, and the sign.
func largest(sign byte) []byte {
	return append([]byte{16, sign}, slices.Repeat([]byte{255}, 280)...)
}

// hasValue fails unless a sum has a value.
func hasValue(t *testing.T, what string, a *sum.Acc, want uint64) {
	t.Helper()
	if got := a.Value(); got != want {
		t.Errorf("%s: the value is %x, not %x", what, got, want)
	}
}

// hasBytes fails unless a sum has some bytes.
func hasBytes(t *testing.T, what string, a *sum.Acc, want ...byte) {
	t.Helper()
	if got, e := a.Encode(); e != api.OK || !slices.Equal(got, want) {
		t.Errorf("%s: the bytes are %v %v, not %v", what, got, e, want)
	}
}

// isSame fails unless two sums are the same, as Same and their bytes say it.
func isSame(t *testing.T, what string, a, b *sum.Acc) {
	t.Helper()
	if !a.Same(b) || !b.Same(a) || !slices.Equal(encoded(t, a), encoded(t, b)) {
		t.Fatalf("%s: %v and %v are not the same sum", what, encoded(t, a), encoded(t, b))
	}
}

// isValue fails unless a call returned a value and no error.
func isValue(t *testing.T, what string, got api.Value, e api.Errno, want api.Value) {
	t.Helper()
	if got != want || e != api.OK {
		t.Errorf("%s: %x %v, not %x", what, got, e, want)
	}
}

// isList fails unless a call returned a list of values and no error.
func isList(t *testing.T, what string, got []api.Value, e api.Errno, want []api.Value) {
	t.Helper()
	if !slices.Equal(got, want) || e != api.OK {
		t.Errorf("%s: %x %v, not %x", what, got, e, want)
	}
}

// isError fails unless a call returned an error and no value.
func isError(t *testing.T, what string, got api.Value, e, want api.Errno) {
	t.Helper()
	if got != (api.Value{}) || e != want {
		t.Errorf("%s: %x %v, not the error %v", what, got, e, want)
	}
}

// isListError fails unless a call returned an error and no list.
func isListError(t *testing.T, what string, got []api.Value, e, want api.Errno) {
	t.Helper()
	if len(got) != 0 || e != want {
		t.Errorf("%s: %x %v, not the error %v", what, got, e, want)
	}
}

// dice yields the same numbers in each run of the tests.
type dice uint64

// roll returns a number from 0 to n - 1.
func (d *dice) roll(n int) int {
	*d = *d*6364136223846793005 + 1442695040888963407
	return int(uint64(*d)>>33) % n
}

// word returns any 64 bits.
func (d *dice) word() uint64 {
	return uint64(d.roll(1<<24)) ^ uint64(d.roll(1<<24))<<20 ^ uint64(d.roll(1<<24))<<40
}

// finite returns a finite number: of any size, near to a power of two, small, or an odd one.
func (d *dice) finite() uint64 {
	sign := uint64(d.roll(2)) << 63
	fraction := d.word() >> 12
	switch d.roll(6) {
	case 0:
		return sign | uint64(d.roll(2047))<<52 | fraction
	case 1:
		return sign | uint64(1000+d.roll(60))<<52 | fraction>>(52-d.roll(10))
	case 2:
		return sign | uint64(d.roll(3))<<52 | fraction
	case 3:
		return sign | uint64(2040+d.roll(7))<<52 | fraction>>d.roll(52)<<d.roll(10)&(1<<52-1)
	case 4:
		return sign | uint64(1020+d.roll(120))<<52 // a power of two
	}
	odd := oddReals()
	return odd[1+d.roll(len(odd)-2)]
}

// number returns a real number: mostly a finite one.
func (d *dice) number() uint64 {
	switch d.roll(40) {
	case 0:
		return oddNaNs()[d.roll(len(oddNaNs()))]
	case 1:
		return plusInf
	case 2:
		return minusInf
	}
	return d.finite()
}

// numbers returns up to most numbers, each of which is from one source.
func (d *dice) numbers(most int, one func() uint64) []uint64 {
	l := make([]uint64, d.roll(most+1))
	for i := range l {
		l[i] = one()
	}
	return l
}

// shuffled returns the elements of a list in some order.
func shuffled[T any](d *dice, l []T) []T {
	l = slices.Clone(l)
	for i := range l {
		j := d.roll(i + 1)
		l[i], l[j] = l[j], l[i]
	}
	return l
}
