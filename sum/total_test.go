package sum_test

import (
	"slices"
	"testing"

	"armada/api"
	"armada/sum"
)

// P0: no argument makes a function panic or go on for ever.
func TestAnything(t *testing.T) {
	odd := append(oddReals(), oddNaNs()...)
	lists := [][]api.Value{nil, {}, values(odd...), slices.Repeat(values(odd...), 100), {{Place: 1}}, {pair(-1, -1), pair(1<<62, 1<<62)}, make([]api.Value, 5)}
	for _, op := range oddCodes() {
		for _, kind := range oddCodes() {
			sum.Check(op, kind)
			for _, l := range lists {
				sum.Reduce(op, kind, l)
				sum.Scan(op, kind, l)
				for _, other := range lists {
					sum.Reduces(op, kind, [][]api.Value{l, other, l})
				}
			}
			for _, a := range []api.Value{{}, pair(-1, -1), {Bits: 1}, {Bits: nan}, {Place: 1}} {
				sum.Do(op, kind, a, a)
			}
		}
	}
	for _, a := range odd {
		for _, b := range odd {
			sum.Compare(a, b)
		}
	}
}

// P0: no bytes make Decode panic, and a sum that it returns can be used.
func TestAnyBytes(t *testing.T) {
	d := dice(19)
	for range 20000 {
		b := make([]byte, d.roll(300))
		for i := range b {
			b[i] = byte(d.roll(256))
		}
		if len(b) > 2 && d.roll(2) == 0 {
			b[0], b[1] = byte(16+d.roll(8)), byte(d.roll(2))
		}
		decodes(t, b)
		if a, e := sum.Decode(b); e == api.OK {
			a.Value()
			a.Add(d.number())
			a.Merge(a)
			a.Merge(decoded(t, largest(1)))
			a.Add(greatest)
			a.Value()
			encoded(t, a)
		}
	}
}

// R3: a sum that no function of the package made is not valid, and that comes before all other errors.
func TestSumsThatAreNotValid(t *testing.T) {
	full := decoded(t, largest(0))
	for _, a := range []*sum.Acc{nil, {}, new(sum.Acc)} {
		for range 2 {
			for _, number := range []uint64{0, power(0), nan, greatest} {
				if e := a.Add(number); e != api.ErrNil {
					t.Error("Add:", e)
				}
			}
			for _, b := range []*sum.Acc{nil, {}, a, sum.New(), sumOf(t, power(0)), full} {
				if e := a.Merge(b); e != api.ErrNil {
					t.Error("Merge:", e)
				}
				if a.Same(b) || b.Same(a) {
					t.Error("the same as a sum that is not valid")
				}
				before, _ := b.Encode()
				if e := b.Merge(a); e != api.ErrNil {
					t.Error("Merge:", e)
				}
				if after, _ := b.Encode(); !slices.Equal(before, after) {
					t.Error("changed with an error")
				}
			}
			if x := a.Value(); x != 0 {
				t.Error("Value:", x)
			}
			if a.Copy() != nil {
				t.Error("a copy of no sum")
			}
			if b, e := a.Encode(); len(b) != 0 || e != api.ErrNil {
				t.Error("Encode:", b, e)
			}
		}
	}
	hasBytes(t, "the largest sum", full, largest(0)...)
}

// R4: arguments stay, and results share no memory with them.
func TestListsStay(t *testing.T) {
	d := dice(20)
	eachRule(func(op, kind int) {
		l := d.list(kind, 6)
		was := slices.Clone(l)
		rows := [][]api.Value{l[:3], l[3:], l[:3]}
		scan, _ := sum.Scan(op, kind, l)
		columns, _ := sum.Reduces(op, kind, rows)
		sum.Reduce(op, kind, l)
		if !slices.Equal(l, was) {
			t.Errorf("%d of %d: %x is now %x", op, kind, was, l)
		}
		one, _ := sum.Reduces(op, kind, [][]api.Value{l})
		single, _ := sum.Scan(op, kind, l[:1])
		for _, result := range [][]api.Value{scan, columns, one, single} {
			result = result[:cap(result)]
			for i := range result {
				result[i] = pair(77, 77)
			}
		}
		if !slices.Equal(l, was) || len(rows[0]) != 3 {
			t.Errorf("%d of %d: %x is now %x", op, kind, was, l)
		}
		again, e := sum.Scan(op, kind, l)
		var want []api.Value
		for i := range l {
			want = append(want, reduceModel(op, kind, l[:i+1]))
		}
		isList(t, "Scan again", again, e, want)
	})
}

// R4: sums share no memory with bytes.
func TestBytesStay(t *testing.T) {
	d := dice(21)
	for range 300 {
		a := sumOf(t, d.numbers(5, d.number)...)
		b := encoded(t, a)
		was := slices.Clone(b)
		c := decoded(t, b)
		if !slices.Equal(b, was) {
			t.Fatal("Decode changed", was, "to", b)
		}
		b = b[:cap(b)]
		for i := range b {
			b[i] = 77
		}
		hasBytes(t, "a sum whose bytes were changed", a, was...)
		hasBytes(t, "a sum of bytes that were changed", c, was...)
	}
}
