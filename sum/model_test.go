package sum_test

import (
	"cmp"
	"math"
	"math/big"

	"armada/api"
)

// model is what a sum knows, as the chapter says it; s is the exact sum.
type model struct {
	s                *big.Rat
	nan, plus, minus bool
	zero             int
}

// modelOf returns the model of the sum of some numbers.
func modelOf(numbers ...uint64) model {
	m := model{s: new(big.Rat)}
	for _, number := range numbers {
		f := math.Float64frombits(number)
		switch {
		case math.IsNaN(f):
			m.nan = true
		case math.IsInf(f, 1):
			m.plus = true
		case math.IsInf(f, -1):
			m.minus = true
		default:
			m.s.Add(m.s, new(big.Rat).SetFloat64(f))
		}
		if number == minusZero && m.zero < 2 {
			m.zero = 1
		} else {
			m.zero = 2
		}
	}
	return m
}

// value returns the value of the sum. The library rounds a rational number to the nearest real number, and has no -0.
func (m model) value() uint64 {
	switch {
	case m.nan || m.plus && m.minus:
		return nan
	case m.plus:
		return plusInf
	case m.minus:
		return minusInf
	case m.s.Sign() == 0 && m.zero == 1:
		return minusZero
	case m.s.Sign() == 0:
		return 0
	}
	f, _ := m.s.Float64()
	if f == 0 {
		panic("a sum other than 0 is never nearest to 0")
	}
	return math.Float64bits(f)
}

// bytes returns the bytes of the sum.
func (m model) bytes() []byte {
	first, sign := byte(8*m.zero), byte(0)
	for i, added := range []bool{m.nan, m.plus, m.minus} {
		if added {
			first += 1 << i
		}
	}
	if m.s.Sign() < 0 {
		sign = 1
	}
	units := new(big.Rat).Mul(m.s, new(big.Rat).SetInt(new(big.Int).Lsh(big.NewInt(1), 1074)))
	if !units.IsInt() {
		panic("a sum of real numbers has no part of 2^-1074")
	}
	return append([]byte{first, sign}, new(big.Int).Abs(units.Num()).Bytes()...)
}

// same reports whether two models are the same sum.
func (m model) same(n model) bool {
	return m.s.Cmp(n.s) == 0 && m.nan == n.nan && m.plus == n.plus && m.minus == n.minus && m.zero == n.zero
}

// isSum reports whether some bytes are those of a sum.
func isSum(b []byte) bool {
	if len(b) < 2 || len(b) > 282 {
		return false
	}
	seen, zero, size := b[0]%8, b[0]/8, b[2:]
	switch {
	case zero > 2 || b[1] > 1:
		return false
	case len(size) == 0 && b[1] == 1 || len(size) > 0 && size[0] == 0:
		return false
	}
	return zero == 2 || seen == 0 && len(size) == 0
}

// fitsModel says for each operation the kinds for which it is.
func fitsModel(op, kind int) api.Errno {
	kinds := map[int][]int{
		1: {api.VInt, api.VReal}, 2: {api.VInt}, 3: {api.VInt, api.VReal}, 4: {api.VInt, api.VReal},
		5: {api.VInt}, 6: {api.VInt}, 7: {api.VInt}, 8: {api.VInt}, 9: {api.VInt}, 10: {api.VPair}, 11: {api.VPair},
	}
	if kinds[op] == nil || kind < 1 || kind > 3 {
		return api.ErrArg
	}
	for _, k := range kinds[op] {
		if k == kind {
			return api.OK
		}
	}
	return api.ErrType
}

// integerModel returns the result of an operation for integers, computed without a limit.
func integerModel(op int, a, b int64) uint64 {
	x, y := big.NewInt(a), big.NewInt(b)
	truth := func(holds bool) *big.Int {
		if holds {
			return big.NewInt(1)
		}
		return new(big.Int)
	}
	z := new(big.Int)
	switch op {
	case api.OpSum:
		z.Add(x, y)
	case api.OpProd:
		z.Mul(x, y)
	case api.OpMin, api.OpMax:
		if z = x; x.Cmp(y) > 0 == (op == api.OpMin) {
			z = y
		}
	case api.OpAnd:
		z.And(x, y)
	case api.OpOr:
		z.Or(x, y)
	case api.OpXor:
		z.Xor(x, y)
	case api.OpAll:
		z = truth(x.Sign() != 0 && y.Sign() != 0)
	case api.OpAny:
		z = truth(x.Sign() != 0 || y.Sign() != 0)
	}
	return new(big.Int).And(z, new(big.Int).SetUint64(math.MaxUint64)).Uint64()
}

// compareModel compares real numbers.
func compareModel(a, b uint64) int {
	x, y := math.Float64frombits(a), math.Float64frombits(b)
	switch {
	case math.IsNaN(x) || math.IsNaN(y):
		if math.IsNaN(x) && math.IsNaN(y) {
			return 0
		} else if math.IsNaN(x) {
			return 1
		}
		return -1
	case x == 0 && y == 0:
		return cmp.Compare(b>>63, a>>63)
	}
	return cmp.Compare(x, y)
}

// realModel returns the result of an operation for real numbers.
func realModel(op int, a, b uint64) uint64 {
	x, y := math.Float64frombits(a), math.Float64frombits(b)
	switch {
	case math.IsNaN(x) || math.IsNaN(y) || op == api.OpSum && math.IsNaN(x+y):
		return nan
	case op == api.OpSum:
		return math.Float64bits(x + y) // the sum of IEEE 754
	case op == api.OpMin:
		return math.Float64bits(math.Min(x, y))
	}
	return math.Float64bits(math.Max(x, y))
}

// pairModel returns the result of an operation for pairs.
func pairModel(op int, a, b api.Value) api.Value {
	x, y := int64(a.Bits), int64(b.Bits)
	if op == api.OpMaxLoc {
		x, y = y, x
	}
	if x < y || x == y && a.Place < b.Place {
		return a
	}
	return b
}

// doModel returns the result of an operation that is for the kind, for valid values.
func doModel(op, kind int, a, b api.Value) api.Value {
	switch kind {
	case api.VInt:
		return api.Value{Bits: integerModel(op, int64(a.Bits), int64(b.Bits))}
	case api.VReal:
		return api.Value{Bits: realModel(op, a.Bits, b.Bits)}
	}
	return pairModel(op, a, b)
}

// reduceModel returns what is left of valid values, of which there is at least one.
func reduceModel(op, kind int, l []api.Value) api.Value {
	if op == api.OpSum && kind == api.VReal {
		var numbers []uint64
		for _, v := range l {
			numbers = append(numbers, v.Bits)
		}
		return api.Value{Bits: modelOf(numbers...).value()}
	}
	so := l[0]
	if kind == api.VReal && math.IsNaN(math.Float64frombits(so.Bits)) {
		so.Bits = nan
	}
	for _, v := range l[1:] {
		so = doModel(op, kind, so, v)
	}
	return so
}
