package sum_test

import (
	"fmt"
	"math"
	"slices"
	"testing"

	"armada/api"
	"armada/sum"
)

// P3.2: the chapter's examples of Reduce.
func TestReduceExamples(t *testing.T) {
	tenths := slices.Repeat(bits(0.1), 10)
	for _, x := range []struct {
		numbers []uint64
		want    uint64
	}{
		{[]uint64{power(60), power(0), opposite(power(60))}, power(0)},
		{[]uint64{opposite(power(60)), power(60), power(0)}, power(0)},
		{tenths, power(0)},
		{[]uint64{minusZero, minusZero}, minusZero},
		{[]uint64{minusZero, 0}, 0},
		{bits(1, -1), 0},
		{bits(-1, 1), 0},
		{[]uint64{plusInf, minusInf}, nan},
		{[]uint64{greatest, greatest, opposite(greatest)}, greatest},
		{[]uint64{power(53), power(0)}, power(53)},
		{[]uint64{power(53), power(0), power(0)}, power(53) + 1},
		{[]uint64{power(53), power(0), least}, power(53) + 1},
		{[]uint64{minusZero}, minusZero},
		{[]uint64{plusInf + 1}, nan},
		{[]uint64{minusInf, 0, greatest}, minusInf},
	} {
		v, e := sum.Reduce(api.OpSum, api.VReal, values(x.numbers...))
		isValue(t, fmt.Sprintf("Reduce of %x", x.numbers), v, e, api.Value{Bits: x.want})
	}
	eachRule(func(op, kind int) {
		v, e := sum.Reduce(op, kind, nil)
		isError(t, "Reduce of nil", v, e, api.ErrArg)
		v, e = sum.Reduce(op, kind, []api.Value{})
		isError(t, "Reduce of no elements", v, e, api.ErrArg)
	})
}

// P3.2: what is left of a single element: NaN is the one that is a result; all others stay as they are.
func TestReduceOfOne(t *testing.T) {
	eachRule(func(op, kind int) {
		for _, v := range someValues(kind) {
			got, e := sum.Reduce(op, kind, []api.Value{v})
			isValue(t, fmt.Sprintf("Reduce(%d, %d) of %x alone", op, kind, v), got, e, reduceModel(op, kind, []api.Value{v}))
			isNaN := math.IsNaN(math.Float64frombits(v.Bits)) && kind == api.VReal
			if isNaN && got.Bits != nan || !isNaN && got != v {
				t.Errorf("Reduce(%d, %d) of %x alone: %x", op, kind, v, got)
			}
		}
	})
}

// P3.2: Reduce of lists of many lengths.
func TestReduce(t *testing.T) {
	d := dice(3)
	for range 4000 {
		eachRule(func(op, kind int) {
			l := d.list(kind, 1+d.roll(12))
			v, e := sum.Reduce(op, kind, l)
			isValue(t, fmt.Sprintf("Reduce(%d, %d) of %x", op, kind, l), v, e, reduceModel(op, kind, l))
		})
	}
	for _, n := range []int{1000, 4096, 20000} {
		l := slices.Repeat(values(greatest, power(-1022)), n)
		v, e := sum.Reduce(api.OpSum, api.VReal, append(l, slices.Repeat(values(opposite(greatest)), n)...))
		isValue(t, "many greatest numbers", v, e, values(math.Float64bits(math.Ldexp(float64(n), -1022)))[0])
		v, e = sum.Reduce(api.OpSum, api.VReal, l)
		isValue(t, "many greatest numbers", v, e, values(plusInf)[0])
	}
}

// list returns valid values of a kind.
func (d *dice) list(kind, n int) []api.Value {
	l := make([]api.Value, n)
	for i := range l {
		l[i] = d.value(kind)
	}
	return l
}

// P3.2, P3.3: the errors of Reduce, Reduces and Scan, in their order.
func TestReduceErrors(t *testing.T) {
	good := values(1, 2, 3)
	bad := [][]api.Value{{{Place: 1}}, {{}, {Place: -1}}, {{}, {}, {Place: math.MinInt64}}, {{Place: 4}, {}, {}}, append(values(make([]uint64, 99)...), api.Value{Place: 1 << 32})}
	for _, op := range oddCodes() {
		for _, kind := range oddCodes() {
			what := fmt.Sprint(op, " and ", kind)
			want := fitsModel(op, kind)
			if want != api.OK {
				for _, l := range append(bad, nil, good) {
					v, e := sum.Reduce(op, kind, l)
					isError(t, "Reduce "+what, v, e, want)
					s, e := sum.Scan(op, kind, l)
					isListError(t, "Scan "+what, s, e, want)
					s, e = sum.Reduces(op, kind, [][]api.Value{l, good[:1], l})
					isListError(t, "Reduces "+what, s, e, want)
				}
				s, e := sum.Reduces(op, kind, nil)
				isListError(t, "Reduces "+what, s, e, want)
				continue
			}
			if kind == api.VPair {
				want = api.OK
			} else {
				want = api.ErrArg
			}
			for _, l := range bad {
				v, e := sum.Reduce(op, kind, l)
				s, f := sum.Scan(op, kind, l)
				rows, g := sum.Reduces(op, kind, [][]api.Value{l})
				if want != api.OK {
					isError(t, "Reduce "+what, v, e, want)
					isListError(t, "Scan "+what, s, f, want)
					isListError(t, "Reduces "+what, rows, g, want)
				} else if e != api.OK || f != api.OK || g != api.OK {
					t.Error(what, e, f, g)
				}
			}
		}
	}
}

// P3.3: the errors of Reduces that come from its rows.
func TestRowErrors(t *testing.T) {
	one, two, bad := values(1), values(1, 2), []api.Value{{}, {Place: 1}}
	for _, x := range []struct {
		rows [][]api.Value
		want api.Errno
	}{
		{nil, api.ErrArg},
		{[][]api.Value{}, api.ErrArg},
		{[][]api.Value{one, two}, api.ErrShape},
		{[][]api.Value{two, one}, api.ErrShape},
		{[][]api.Value{nil, one}, api.ErrShape},
		{[][]api.Value{one, nil}, api.ErrShape},
		{[][]api.Value{two, two, two, one}, api.ErrShape},
		{[][]api.Value{bad, one}, api.ErrShape},
		{[][]api.Value{two, bad, two, one}, api.ErrShape},
		{[][]api.Value{bad, two}, api.ErrArg},
		{[][]api.Value{two, two, bad}, api.ErrArg},
		{[][]api.Value{bad}, api.ErrArg},
	} {
		for _, kind := range []int{api.VInt, api.VReal} {
			l, e := sum.Reduces(api.OpSum, kind, x.rows)
			isListError(t, fmt.Sprint("Reduces of ", x.rows), l, e, x.want)
		}
	}
	eachRule(func(op, kind int) {
		for _, rows := range [][][]api.Value{{nil}, {{}}, {nil, {}, nil}} {
			l, e := sum.Reduces(op, kind, rows)
			isList(t, "rows without elements", l, e, nil)
		}
		l, e := sum.Scan(op, kind, nil)
		isList(t, "Scan of nil", l, e, nil)
		l, e = sum.Scan(op, kind, []api.Value{})
		isList(t, "Scan of no elements", l, e, nil)
	})
}

// P3.3: Reduces goes column by column.
func TestReduces(t *testing.T) {
	l, e := sum.Reduces(api.OpSum, api.VInt, [][]api.Value{integers(1, 10, -1), integers(2, 20, -2), integers(4, 40, math.MinInt64)})
	isList(t, "Reduces", l, e, integers(7, 70, math.MaxInt64-2))
	l, e = sum.Reduces(api.OpSum, api.VReal, [][]api.Value{values(power(60), minusZero), values(power(0), minusZero), values(opposite(power(60)), minusZero)})
	isList(t, "Reduces", l, e, values(power(0), minusZero))
	d := dice(4)
	for range 300 {
		eachRule(func(op, kind int) {
			rows := make([][]api.Value, 1+d.roll(5))
			columns := d.roll(5)
			for i := range rows {
				rows[i] = d.list(kind, columns)
			}
			var want []api.Value
			for i := range columns {
				var column []api.Value
				for _, row := range rows {
					column = append(column, row[i])
				}
				want = append(want, reduceModel(op, kind, column))
			}
			l, e := sum.Reduces(op, kind, rows)
			isList(t, fmt.Sprintf("Reduces(%d, %d) of %x", op, kind, rows), l, e, want)
		})
	}
}

// P3.3, P3.10: each element of Scan is what Reduce returns for the beginning of the list.
func TestScan(t *testing.T) {
	l, e := sum.Scan(api.OpSum, api.VInt, integers(1, 2, 3))
	isList(t, "Scan", l, e, integers(1, 3, 6))
	l, e = sum.Scan(api.OpSum, api.VReal, values(power(53), power(0), power(0), least, opposite(power(53))))
	isList(t, "Scan", l, e, values(power(53), power(53), power(53)+1, power(53)+1, power(1)))
	l, e = sum.Scan(api.OpMax, api.VReal, values(minusInf+1, power(0)))
	isList(t, "Scan", l, e, values(nan, nan))
	l, e = sum.Scan(api.OpAll, api.VInt, integers(7, 7, 0, 7))
	isList(t, "Scan", l, e, integers(7, 1, 0, 0))
	d := dice(5)
	for range 500 {
		eachRule(func(op, kind int) {
			l := d.list(kind, d.roll(10))
			got, e := sum.Scan(op, kind, l)
			var want []api.Value
			for i := range l {
				want = append(want, reduceModel(op, kind, l[:i+1]))
			}
			isList(t, fmt.Sprintf("Scan(%d, %d) of %x", op, kind, l), got, e, want)
			if len(l) == 0 {
				return
			}
			last, e := sum.Reduce(op, kind, l)
			isValue(t, "the last one", got[len(got)-1], e, last)
		})
	}
}
