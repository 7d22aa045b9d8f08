package sum_test

import (
	"fmt"
	"math"
	"testing"

	"armada/api"
	"armada/sum"
)

// P3.7: all operations are commutative and associative, but for OpSum of VReal by Do.
func TestOperationsFitTogether(t *testing.T) {
	d := dice(11)
	do := func(op, kind int, a, b api.Value) api.Value {
		v, e := sum.Do(op, kind, a, b)
		if e != api.OK {
			t.Fatal(op, kind, a, b, e)
		}
		return v
	}
	for range 5000 {
		eachRule(func(op, kind int) {
			a, b, c := d.value(kind), d.value(kind), d.value(kind)
			if x, y := do(op, kind, a, b), do(op, kind, b, a); x != y {
				t.Fatalf("%d of %d: %x and %x make %x, or %x", op, kind, a, b, x, y)
			}
			if op == api.OpSum && kind == api.VReal {
				return
			}
			if x, y := do(op, kind, do(op, kind, a, b), c), do(op, kind, a, do(op, kind, b, c)); x != y {
				t.Fatalf("%d of %d: %x, %x and %x make %x, or %x", op, kind, a, b, c, x, y)
			}
		})
	}
}

// P3.7: Reduce does not depend on the order.
func TestOrderOfReduce(t *testing.T) {
	d := dice(12)
	for range 1500 {
		eachRule(func(op, kind int) {
			l := d.list(kind, 1+d.roll(15))
			v, e := sum.Reduce(op, kind, l)
			for range 3 {
				w, f := sum.Reduce(op, kind, shuffled(&d, l))
				if v != w || e != api.OK || f != api.OK {
					t.Fatalf("%d of %d: %x makes %x %v, or %x %v", op, kind, l, v, e, w, f)
				}
			}
		})
	}
}

// P3.7: sums of parts that are merged, in whichever order, are the same as the sum of all.
func TestParts(t *testing.T) {
	d := dice(13)
	for round := range 3000 {
		one := d.finite
		if round%3 == 0 {
			one = d.number
		}
		numbers := d.numbers(30, one)
		parts := make([]*sum.Acc, 1+d.roll(6))
		for i := range parts {
			parts[i] = sum.New()
		}
		for _, number := range shuffled(&d, numbers) {
			add(t, parts[d.roll(len(parts))], number)
		}
		for len(parts) > 1 {
			parts = shuffled(&d, parts)
			last := parts[len(parts)-1]
			merge(t, parts[0], last)
			parts = parts[:len(parts)-1]
		}
		isSame(t, "the parts and all", parts[0], sumOf(t, numbers...))
	}
}

// P3.8: the value of the sum of one number is this number.
func TestOneNumber(t *testing.T) {
	d := dice(14)
	numbers := oddReals()
	for range 20000 {
		numbers = append(numbers, d.finite(), d.word())
	}
	for _, number := range numbers {
		want := number
		if math.IsNaN(math.Float64frombits(number)) {
			want = nan
		}
		hasValue(t, "one number", sumOf(t, number), want)
	}
}

// P3.8: the value of the sum of two numbers is that of IEEE 754.
func TestTwoNumbers(t *testing.T) {
	d := dice(15)
	check := func(a, b uint64) {
		want := realModel(api.OpSum, a, b)
		hasValue(t, fmt.Sprintf("%x and %x", a, b), sumOf(t, a, b), want)
		v, e := sum.Do(api.OpSum, api.VReal, api.Value{Bits: a}, api.Value{Bits: b})
		isValue(t, fmt.Sprintf("Do of %x and %x", a, b), v, e, api.Value{Bits: want})
	}
	odd := append(oddReals(), oddNaNs()...)
	for _, a := range odd {
		for _, b := range odd {
			check(a, b)
		}
	}
	for range 50000 {
		a, b := d.number(), d.number()
		check(a, b)
		near := a&minusZero ^ uint64(d.roll(2))<<63 | (a>>52-uint64(d.roll(60)))&2047<<52 | d.word()>>12
		check(a, near)
	}
}

// P3.8: sums of integers are exact.
func TestIntegers(t *testing.T) {
	d := dice(16)
	for round := range 60 {
		n, size := 1+d.roll(4096), 1+d.roll(40)
		if round == 0 {
			n, size = 4096, 40
		}
		total, a := int64(0), sum.New()
		var l []api.Value
		for range n {
			x := int64(d.word()>>(64-size)) * int64(1-2*d.roll(2))
			if round == 0 {
				x = 1<<40 - 1
			}
			total += x
			number := math.Float64bits(float64(x))
			add(t, a, number)
			l = append(l, values(number)...)
		}
		want := math.Float64bits(float64(total))
		if int64(float64(total)) != total {
			t.Fatal("a total that is no real number")
		}
		hasValue(t, "a sum of integers", a, want)
		v, e := sum.Reduce(api.OpSum, api.VReal, l)
		isValue(t, "Reduce of integers", v, e, api.Value{Bits: want})
	}
}

// P3.8: adding a number and its opposite changes S by nothing.
func TestOpposites(t *testing.T) {
	d := dice(17)
	for range 5000 {
		a := sumOf(t, append(d.numbers(6, d.number), power(0))...)
		before := encoded(t, a)
		added := d.numbers(6, d.finite)
		for _, number := range added {
			add(t, a, number)
		}
		for _, number := range shuffled(&d, added) {
			add(t, a, opposite(number))
		}
		hasBytes(t, fmt.Sprintf("%x and opposites", added), a, before...)
		b := sumOf(t, added...)
		for _, number := range added {
			add(t, b, opposite(number))
		}
		if len(added) > 0 {
			hasBytes(t, "numbers and opposites", b, 16, 0)
			hasValue(t, "numbers and opposites", b, 0)
		}
	}
}

// P3.9: a sum can be sent as bytes and merged elsewhere.
func TestSentSums(t *testing.T) {
	d := dice(18)
	for range 2000 {
		var all []uint64
		here := sum.New()
		for range 1 + d.roll(5) {
			numbers := d.numbers(5, d.number)
			all = append(all, numbers...)
			merge(t, here, decoded(t, encoded(t, sumOf(t, numbers...))))
		}
		isSame(t, "sums that were sent", here, sumOf(t, all...))
		hasValue(t, "sums that were sent", here, modelOf(all...).value())
	}
}
