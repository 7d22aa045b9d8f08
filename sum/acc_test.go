package sum_test

import (
	"bytes"
	"fmt"
	"math"
	"slices"
	"testing"

	"armada/api"
	"armada/sum"
)

// P3.4: a new sum has no numbers.
func TestNew(t *testing.T) {
	a := sum.New()
	hasValue(t, "no numbers", a, 0)
	hasBytes(t, "no numbers", a, 0, 0)
	b := sum.New()
	isSame(t, "no numbers", a, b)
	add(t, a, power(3))
	hasBytes(t, "another sum of no numbers", b, 0, 0)
	hasBytes(t, "a sum made later", sum.New(), 0, 0)
	merge(t, b, sum.New())
	hasBytes(t, "nothing and nothing", b, 0, 0)
	merge(t, a, b)
	hasValue(t, "8 and nothing", a, power(3))
	merge(t, b, a)
	isSame(t, "nothing and 8", a, b)
}

// P3.4, P3.5, P3.6: what a sum knows, as its value and its bytes show it.
func TestWhatSumsKnow(t *testing.T) {
	for _, x := range []struct {
		numbers []uint64
		value   uint64
		bytes   []byte
	}{
		{nil, 0, []byte{0, 0}},
		{[]uint64{minusZero}, minusZero, []byte{8, 0}},
		{[]uint64{minusZero, minusZero, minusZero}, minusZero, []byte{8, 0}},
		{[]uint64{0}, 0, []byte{16, 0}},
		{[]uint64{minusZero, 0}, 0, []byte{16, 0}},
		{[]uint64{0, minusZero}, 0, []byte{16, 0}},
		{[]uint64{minusZero, 0, minusZero}, 0, []byte{16, 0}},
		{[]uint64{least}, least, []byte{16, 0, 1}},
		{[]uint64{opposite(least)}, opposite(least), []byte{16, 1, 1}},
		{[]uint64{least, minusZero}, least, []byte{16, 0, 1}},
		{[]uint64{least, opposite(least)}, 0, []byte{16, 0}},
		{[]uint64{minusZero, least, opposite(least)}, 0, []byte{16, 0}},
		{[]uint64{opposite(power(-1066)), nan}, nan, []byte{17, 1, 1, 0}},
		{[]uint64{nan}, nan, []byte{17, 0}},
		{[]uint64{1<<64 - 1, plusInf + 1}, nan, []byte{17, 0}},
		{[]uint64{minusZero, nan}, nan, []byte{17, 0}},
		{[]uint64{plusInf}, plusInf, []byte{18, 0}},
		{[]uint64{minusZero, plusInf}, plusInf, []byte{18, 0}},
		{[]uint64{minusInf, minusInf}, minusInf, []byte{20, 0}},
		{[]uint64{minusInf, plusInf}, nan, []byte{22, 0}},
		{[]uint64{nan, plusInf}, nan, []byte{19, 0}},
		{[]uint64{minusInf, nan, least}, nan, []byte{21, 0, 1}},
		{[]uint64{minusInf, nan, plusInf}, nan, []byte{23, 0}},
		{[]uint64{plusInf, opposite(greatest)}, plusInf, nil},
		{[]uint64{minusInf, greatest, greatest}, minusInf, nil},
		{[]uint64{256 * least}, 256, []byte{16, 0, 1, 0}},
		{[]uint64{255}, 255, []byte{16, 0, 255}},
		{[]uint64{1 << 52}, 1 << 52, []byte{16, 0, 16, 0, 0, 0, 0, 0, 0}},
		{[]uint64{1<<52 - 1, least}, 1 << 52, []byte{16, 0, 16, 0, 0, 0, 0, 0, 0}},
		{[]uint64{power(-1010), opposite(least)}, power(-1010), []byte{16, 0, 255, 255, 255, 255, 255, 255, 255, 255}},
		{[]uint64{power(-1010)}, power(-1010), []byte{16, 0, 1, 0, 0, 0, 0, 0, 0, 0, 0}},
		{[]uint64{opposite(power(-1010)), least}, opposite(power(-1010)), []byte{16, 1, 255, 255, 255, 255, 255, 255, 255, 255}},
		{[]uint64{power(0)}, power(0), append([]byte{16, 0, 4}, make([]byte, 134)...)},
	} {
		what := fmt.Sprintf("the sum of %x", x.numbers)
		a := sumOf(t, x.numbers...)
		hasValue(t, what, a, x.value)
		want := modelOf(x.numbers...).bytes()
		if x.bytes != nil && !bytes.Equal(want, x.bytes) {
			t.Error(what, "the model is wrong:", want)
		}
		hasBytes(t, what, a, want...)
	}
}

// P3.5: how the value is rounded.
func TestRounding(t *testing.T) {
	one, tie := power(0), power(-53)
	for _, x := range []struct {
		numbers []uint64
		want    uint64
	}{
		{[]uint64{power(53), one}, power(53)}, // the chapter's examples
		{[]uint64{power(53), one, one}, power(53) + 1},
		{[]uint64{power(53), one, least}, power(53) + 1},
		{[]uint64{one, tie}, one}, // an even fraction below
		{[]uint64{one + 1, tie}, one + 2},
		{[]uint64{one + 2, tie}, one + 2},
		{[]uint64{one, tie, least}, one + 1},
		{[]uint64{one, tie, opposite(least)}, one},
		{[]uint64{one + 1, tie, opposite(least)}, one + 1},
		{[]uint64{one, tie, power(-1000)}, one + 1},
		{[]uint64{one, tie, power(-118)}, one + 1},
		{[]uint64{one, power(-54), power(-54)}, one},
		{[]uint64{one, power(-54)}, one},
		{[]uint64{one, power(-54), power(-55)}, one},
		{[]uint64{one, opposite(power(-54))}, one},
		{[]uint64{one, opposite(power(-54)), opposite(least)}, one - 1},
		{[]uint64{one, opposite(power(-55))}, one},
		{[]uint64{one, opposite(power(-53))}, one - 1},
		{[]uint64{power(1) - 1, tie}, power(1)}, // up to a power of two
		{[]uint64{power(1) - 1, tie, opposite(least)}, power(1) - 1},
		{[]uint64{power(-1000), power(-1053), least}, power(-1000) + 1},
		{[]uint64{power(-1000), power(-1053)}, power(-1000)},
		{[]uint64{power(-1021), least}, power(-1021)}, // the smallest number in whose place least is a half
		{[]uint64{power(-1021) + 1, least}, power(-1021) + 2},
		{[]uint64{power(-1021), least, least}, power(-1021) + 1},
		{[]uint64{power(-1022), least}, power(-1022) + 1},
		{[]uint64{greatest, power(970)}, plusInf},
		{[]uint64{greatest, power(970), opposite(least)}, greatest},
		{[]uint64{greatest, power(970) - 1}, greatest},
		{[]uint64{greatest, power(971)}, plusInf},
		{[]uint64{greatest, greatest}, plusInf},
		{[]uint64{power(1023), power(1023)}, plusInf},
		{[]uint64{power(1023), power(1023), opposite(power(970))}, plusInf},
		{[]uint64{power(1023), power(1023), opposite(power(970)), opposite(least)}, greatest},
		{[]uint64{greatest, greatest, greatest, opposite(greatest), opposite(greatest)}, greatest},
	} {
		hasValue(t, fmt.Sprintf("the sum of %x", x.numbers), sumOf(t, x.numbers...), x.want)
		for i := range x.numbers {
			x.numbers[i] = opposite(x.numbers[i])
		}
		hasValue(t, fmt.Sprintf("the sum of %x", x.numbers), sumOf(t, x.numbers...), opposite(x.want))
	}
}

// P3.5: at each place of the exact sum a half is rounded to the even fraction, and more or less than it up or down.
func TestRoundingEverywhere(t *testing.T) {
	for exponent := uint64(2); exponent < 2047; exponent++ {
		number := exponent<<52 | exponent*0x9E3779B97F4A7&(1<<52-1)
		half := math.Float64bits(math.Ldexp(1, int(exponent)-1023-53))
		even := number + number&1
		for _, x := range []struct {
			more []uint64
			want uint64
		}{
			{[]uint64{half}, even}, {[]uint64{half, least}, number + 1}, {[]uint64{half, opposite(least)}, number},
			{[]uint64{half, half}, number + 1}, {[]uint64{half, half, half}, number + 2 - number&1},
		} {
			if half == least && len(x.more) == 2 && x.more[1] != half {
				continue // least is no less than the half
			}
			a := sumOf(t, append(x.more, number)...)
			if want := modelOf(append(x.more, number)...).value(); want != x.want {
				t.Fatalf("%x and %x: the model is wrong", number, x.more)
			}
			if got := a.Value(); got != x.want {
				t.Fatalf("%x and %x: %x, not %x", number, x.more, got, x.want)
			}
		}
	}
}

// P3.4, P3.5, P3.6: sums of any numbers, against the model.
func TestSums(t *testing.T) {
	d := dice(6)
	for round := range 20000 {
		one := d.finite
		if round%4 == 0 {
			one = d.number
		}
		numbers := d.numbers(12, one)
		for _, number := range numbers {
			if d.roll(3) == 0 {
				numbers = append(numbers, opposite(number))
			}
		}
		a, m := sumOf(t, numbers...), modelOf(numbers...)
		what := fmt.Sprintf("the sum of %x", numbers)
		hasValue(t, what, a, m.value())
		hasBytes(t, what, a, m.bytes()...)
		if t.Failed() {
			return
		}
	}
}

// P3.4: S has to be below 2^1166.
func TestOver(t *testing.T) {
	for sign := range byte(2) {
		one, inf := uint64(least)|uint64(sign)<<63, uint64(plusInf)|uint64(sign)<<63
		a := decoded(t, largest(sign))
		hasValue(t, "the largest sum", a, inf)
		for _, number := range []uint64{one, one + 1, power(0) | one&minusZero, power(1023) | one&minusZero, inf - 1} {
			if e := a.Add(number); e != api.ErrOver {
				t.Errorf("Add of %x: %v", number, e)
			}
			hasBytes(t, "a sum with an error", a, largest(sign)...)
			b := decoded(t, largest(sign))
			if e := b.Merge(sumOf(t, number, nan, plusInf)); e != api.ErrOver {
				t.Errorf("Merge of %x: %v", number, e)
			}
			hasBytes(t, "a sum with an error", b, largest(sign)...)
			c := sumOf(t, number, minusInf)
			before := encoded(t, c)
			if e := c.Merge(a); e != api.ErrOver {
				t.Errorf("Merge to %x: %v", number, e)
			}
			hasBytes(t, "a sum with an error", c, before...)
		}
		if e := a.Merge(a); e != api.ErrOver {
			t.Error("Merge of itself:", e)
		}
		hasBytes(t, "a sum with an error", a, largest(sign)...)
		add(t, a, 0)
		add(t, a, minusZero)
		hasBytes(t, "the largest sum", a, largest(sign)...)
		add(t, a, opposite(one))
		less := largest(sign)
		less[281] = 254
		hasBytes(t, "a bit less", a, less...)
		add(t, a, one)
		hasBytes(t, "the largest sum again", a, largest(sign)...)
		merge(t, a, decoded(t, largest(1-sign)))
		hasBytes(t, "nothing", a, 16, 0)
	}
}

// P3.4: numbers that are not finite fit to all sums.
func TestNotFiniteFits(t *testing.T) {
	a := decoded(t, largest(0))
	add(t, a, plusInf)
	add(t, a, minusInf)
	add(t, a, nan)
	want := largest(0)
	want[0] = 23
	hasBytes(t, "the largest sum and others", a, want...)
	if e := a.Add(least); e != api.ErrOver {
		t.Error(e)
	}
	hasBytes(t, "the largest sum and others", a, want...)
	hasValue(t, "the largest sum and others", a, nan)
}

// P3.4: a sum can be merged with itself, up to the limit.
func TestDouble(t *testing.T) {
	for _, sign := range []uint64{0, minusZero} {
		a := sumOf(t, greatest|sign)
		for n := range 142 {
			if e := a.Merge(a); e != api.OK {
				t.Fatal(n, e)
			}
			hasValue(t, "twice", a, plusInf|sign)
		}
		before := encoded(t, a)
		if len(before) != 282 {
			t.Error(len(before), "bytes")
		}
		if e := a.Merge(a); e != api.ErrOver {
			t.Error(e)
		}
		hasBytes(t, "a sum with an error", a, before...)
		b := sumOf(t, power(1023)|sign)
		for n := range 142 {
			if e := b.Merge(b); e != api.OK {
				t.Fatal(n, e)
			}
		}
		if e := b.Merge(b); e != api.ErrOver { // exactly 2^1166
			t.Error(e)
		}
		half := append([]byte{16, byte(sign >> 63), 128}, make([]byte, 279)...)
		hasBytes(t, "2^1165", b, half...)
	}
	a := sumOf(t, minusZero)
	merge(t, a, a)
	hasBytes(t, "-0 twice", a, 8, 0)
	b := sumOf(t, plusInf, power(2))
	merge(t, b, b)
	isSame(t, "twice", b, sumOf(t, power(3), plusInf))
}

// P3.4: zero states of merged sums.
func TestMergedZeros(t *testing.T) {
	parts := [][]uint64{nil, {minusZero}, {0}, {power(0), opposite(power(0))}, {nan}, {minusInf}}
	for _, x := range parts {
		for _, y := range parts {
			a := sumOf(t, x...)
			merge(t, a, sumOf(t, y...))
			m := modelOf(slices.Concat(x, y)...)
			hasBytes(t, fmt.Sprintf("%x and %x", x, y), a, m.bytes()...)
			hasValue(t, fmt.Sprintf("%x and %x", x, y), a, m.value())
		}
	}
}

// P3.4, P3.5: a copy is the same sum, and independent.
func TestCopy(t *testing.T) {
	d := dice(7)
	for range 1000 {
		a := sumOf(t, d.numbers(5, d.number)...)
		before := encoded(t, a)
		b := a.Copy()
		isSame(t, "a copy", a, b)
		if a == b {
			t.Fatal("a copy that is the sum itself")
		}
		add(t, b, power(5))
		merge(t, b, sumOf(t, nan))
		hasBytes(t, "a sum whose copy changed", a, before...)
		c := a.Copy()
		add(t, a, power(5))
		merge(t, a, sumOf(t, nan))
		hasBytes(t, "a copy whose sum changed", c, before...)
		isSame(t, "a sum and a copy that changed", a, b)
	}
}

// P3.5, P3.9: Same compares S, what was added, and the zero states; different sums have different bytes.
func TestSame(t *testing.T) {
	lists := [][]uint64{nil, {minusZero}, {0}, {0, 0}, {nan}, {nan, 0}, {1<<64 - 1}, {plusInf}, {minusInf}, {plusInf, minusInf}, {nan, plusInf}, {nan, minusInf}, {nan, plusInf, minusInf},
		{least}, {opposite(least)}, {least, least}, {2}, {power(0)}, {opposite(power(0))}, {power(0), nan}, {power(0), least}, {power(0), opposite(least)}, {power(0), plusInf},
		{power(53), power(0)}, {power(53)}, {power(52), power(52)}, {power(64), least}, {power(64)}, {greatest, greatest}, {greatest, greatest, least}, {greatest, plusInf}, {power(-1010)}, {power(-1010), opposite(least)}}
	d := dice(8)
	for range 60 {
		l := d.numbers(4, d.number)
		lists = append(lists, l, append([]uint64{least}, l...), append([]uint64{power(1023), opposite(power(1023))}, l...))
	}
	for _, x := range lists {
		for _, y := range lists {
			a, b := sumOf(t, x...), sumOf(t, y...)
			want := modelOf(x...).same(modelOf(y...))
			if a.Same(b) != want || bytes.Equal(encoded(t, a), encoded(t, b)) != want {
				t.Errorf("%x and %x: Same is %v, not %v; %v and %v", x, y, a.Same(b), want, encoded(t, a), encoded(t, b))
			}
		}
	}
}

// P3.5: asking a sum does not change it.
func TestAsking(t *testing.T) {
	d := dice(9)
	for range 500 {
		numbers := d.numbers(6, d.number)
		a, b := sumOf(t, numbers...), sumOf(t, numbers...)
		for range 2 {
			a.Value()
			a.Encode()
			a.Same(sum.New())
			a.Copy()
			sum.New().Merge(a)
		}
		isSame(t, "a sum that was asked", a, b)
	}
}
