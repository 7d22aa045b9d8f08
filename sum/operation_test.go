package sum_test

import (
	"fmt"
	"math"
	"testing"

	"armada/api"
	"armada/sum"
)

// oddCodes returns all codes of operations and kinds, and others.
func oddCodes() []int {
	l := []int{lowest, lowest + 1, -1 << 32, highest, highest - 1, 1 << 32, 1<<32 + 1, 1<<32 + 3, 1 << 62}
	for n := -12; n <= 40; n++ {
		l = append(l, n)
	}
	return append(l, 65, 257, 258, 259, 65537)
}

// eachRule calls f with each operation and each kind for which it is.
func eachRule(f func(op, kind int)) {
	for op := api.OpSum; op <= api.OpMaxLoc; op++ {
		for kind := api.VInt; kind <= api.VPair; kind++ {
			if fitsModel(op, kind) == api.OK {
				f(op, kind)
			}
		}
	}
}

// P3.1: which operations are for which kinds.
func TestCheck(t *testing.T) {
	count := 0
	for _, op := range oddCodes() {
		for _, kind := range oddCodes() {
			e := sum.Check(op, kind)
			if want := fitsModel(op, kind); e != want {
				t.Errorf("Check of %d and %d: %v, not %v", op, kind, e, want)
			}
			if e == api.OK {
				count++
			}
		}
	}
	if count != 14 {
		t.Error(count, "operations")
	}
	for _, x := range []struct {
		op, kind int
		want     api.Errno
	}{{api.OpProd, api.VReal, api.ErrType}, {api.OpMinLoc, api.VPair, api.OK}, {0, api.VInt, api.ErrArg}, {api.OpSum, 0, api.ErrArg}, {12, 4, api.ErrArg}, {api.OpSum, api.VPair, api.ErrType}, {api.OpMaxLoc, api.VInt, api.ErrType}} {
		if e := sum.Check(x.op, x.kind); e != x.want {
			t.Errorf("Check of %d and %d: %v, not %v", x.op, x.kind, e, x.want)
		}
	}
}

// P3.1: the chapter's examples of Do.
func TestDoExamples(t *testing.T) {
	for _, x := range []struct {
		op   int
		a, b int64
		want int64
	}{
		{api.OpSum, math.MaxInt64, 1, math.MinInt64}, {api.OpProd, -3, 5, -15}, {api.OpAll, 2, 4, 1}, {api.OpAnd, 2, 4, 0},
		{api.OpSum, math.MinInt64, -1, math.MaxInt64}, {api.OpProd, 1 << 32, 1 << 32, 0}, {api.OpProd, math.MinInt64, -1, math.MinInt64},
		{api.OpMin, -1, 1, -1}, {api.OpMax, -1, 1, 1}, {api.OpMin, math.MinInt64, math.MaxInt64, math.MinInt64},
		{api.OpOr, 5, -8, -3}, {api.OpXor, 5, -1, -6}, {api.OpAny, 0, 0, 0}, {api.OpAny, 0, -4, 1}, {api.OpAll, 0, 3, 0}, {api.OpAll, -1, 0, 0},
	} {
		v, e := sum.Do(x.op, api.VInt, pair(x.a, 0), pair(x.b, 0))
		isValue(t, fmt.Sprint(x), v, e, pair(x.want, 0))
	}
	for _, x := range []struct {
		op            int
		a, b, want    uint64
		whatIsCompare int
	}{
		{api.OpMin, minusZero, 0, minusZero, -1}, {api.OpMin, 0, minusZero, minusZero, 1}, {api.OpMax, minusZero, 0, 0, -1}, {api.OpMax, 0, minusZero, 0, 1},
		{api.OpMax, nan, power(0), nan, 1}, {api.OpMin, nan, power(0), nan, 1}, {api.OpMin, power(0), 1<<64 - 1, nan, -1}, {api.OpMax, plusInf, plusInf + 1, nan, -1},
		{api.OpSum, minusZero, minusZero, minusZero, 0}, {api.OpSum, minusZero, 0, 0, -1}, {api.OpSum, plusInf, minusInf, nan, 1}, {api.OpSum, plusInf, opposite(greatest), plusInf, 1},
		{api.OpSum, power(53), power(0), power(53), 1}, {api.OpSum, greatest, greatest, plusInf, 0}, {api.OpSum, least, least, 2, 0}, {api.OpMin, least, minusInf, minusInf, 1},
	} {
		v, e := sum.Do(x.op, api.VReal, api.Value{Bits: x.a}, api.Value{Bits: x.b})
		isValue(t, fmt.Sprint(x), v, e, api.Value{Bits: x.want})
		if c := sum.Compare(x.a, x.b); c != x.whatIsCompare {
			t.Errorf("Compare of %x and %x: %d", x.a, x.b, c)
		}
	}
	for _, x := range []struct {
		op         int
		a, b, want api.Value
	}{
		{api.OpMaxLoc, pair(7, 3), pair(7, 1), pair(7, 1)}, {api.OpMinLoc, pair(7, 3), pair(7, 1), pair(7, 1)}, {api.OpMaxLoc, pair(7, -1), pair(7, 1), pair(7, -1)},
		{api.OpMinLoc, pair(-1, 9), pair(1, 0), pair(-1, 9)}, {api.OpMaxLoc, pair(-1, 0), pair(1, 9), pair(1, 9)},
		{api.OpMinLoc, pair(4, math.MinInt64), pair(4, math.MaxInt64), pair(4, math.MinInt64)}, {api.OpMaxLoc, pair(4, math.MaxInt64), pair(4, math.MinInt64), pair(4, math.MinInt64)},
	} {
		v, e := sum.Do(x.op, api.VPair, x.a, x.b)
		isValue(t, fmt.Sprint(x), v, e, x.want)
	}
}

// someValues returns valid values of a kind.
func someValues(kind int) []api.Value {
	switch kind {
	case api.VInt:
		return integers(oddIntegers()...)
	case api.VReal:
		return values(append(oddReals(), oddNaNs()...)...)
	}
	var l []api.Value
	for _, n := range []int64{math.MinInt64, -1, 0, 1, math.MaxInt64} {
		for _, place := range oddIntegers() {
			l = append(l, pair(n, place))
		}
	}
	return l
}

// P3.1: Do gives the results that the chapter's table says.
func TestDo(t *testing.T) {
	eachRule(func(op, kind int) {
		for _, a := range someValues(kind) {
			for _, b := range someValues(kind) {
				v, e := sum.Do(op, kind, a, b)
				isValue(t, fmt.Sprintf("Do(%d, %d) of %x and %x", op, kind, a, b), v, e, doModel(op, kind, a, b))
			}
		}
	})
	d := dice(1)
	for range 30000 {
		eachRule(func(op, kind int) {
			a, b := d.value(kind), d.value(kind)
			v, e := sum.Do(op, kind, a, b)
			isValue(t, fmt.Sprintf("Do(%d, %d) of %x and %x", op, kind, a, b), v, e, doModel(op, kind, a, b))
		})
	}
}

// value returns a valid value of a kind.
func (d *dice) value(kind int) api.Value {
	switch kind {
	case api.VInt:
		return api.Value{Bits: d.word() >> (d.roll(4) * 20)}
	case api.VReal:
		return api.Value{Bits: d.number()}
	}
	return pair(int64(d.roll(3)-1), int64(d.word())>>(d.roll(3)*30))
}

// P3.1: the errors of Do, in their order.
func TestDoErrors(t *testing.T) {
	good, bad := api.Value{Bits: 1}, []api.Value{{Bits: 1, Place: 1}, {Place: -1}, {Bits: 5, Place: math.MinInt64}, {Place: math.MaxInt64}, {Place: 1 << 32}}
	for _, op := range oddCodes() {
		for _, kind := range oddCodes() {
			want := fitsModel(op, kind)
			if want != api.OK {
				v, e := sum.Do(op, kind, good, good)
				isError(t, fmt.Sprint("Do ", op, kind), v, e, want)
			} else if kind != api.VPair {
				want = api.ErrArg
			}
			for _, w := range bad {
				for _, l := range [][2]api.Value{{w, good}, {good, w}, {w, w}} {
					if v, e := sum.Do(op, kind, l[0], l[1]); want != api.OK {
						isError(t, fmt.Sprint("Do ", op, kind, l), v, e, want)
					} else if e != api.OK {
						t.Error("Do ", op, kind, l, e)
					}
				}
			}
		}
	}
}

// P3.1: the order of real numbers.
func TestCompare(t *testing.T) {
	ascending := oddReals()
	for i, a := range ascending {
		for j, b := range ascending {
			want := 0
			if i < j {
				want = -1
			} else if i > j {
				want = 1
			}
			if c := sum.Compare(a, b); c != want {
				t.Errorf("Compare of %x and %x: %d, not %d", a, b, c, want)
			}
		}
		for _, b := range oddNaNs() {
			if c := sum.Compare(a, b); c != -1 {
				t.Errorf("Compare of %x and NaN: %d", a, c)
			}
			if c := sum.Compare(b, a); c != 1 {
				t.Errorf("Compare of NaN and %x: %d", a, c)
			}
		}
	}
	for _, a := range oddNaNs() {
		for _, b := range oddNaNs() {
			if c := sum.Compare(a, b); c != 0 {
				t.Errorf("Compare of NaNs: %d", c)
			}
		}
	}
	d := dice(2)
	for range 100000 {
		a, b := d.word(), d.number()
		if d.roll(4) == 0 {
			b = a ^ 1<<d.roll(64)
		}
		if c := sum.Compare(a, b); c != compareModel(a, b) {
			t.Fatalf("Compare of %x and %x: %d", a, b, c)
		}
	}
}
