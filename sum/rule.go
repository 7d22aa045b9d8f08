package sum

import (
	"cmp"
	"slices"

	"armada/api"
)

// operation returns the result for two values, which are valid.
type operation func(a, b api.Value) api.Value

// rule is an operation for a kind of values.
type rule struct {
	op, kind int
	do       operation
}

// find returns the operation for a kind of values, or why there is none.
func find(op, kind int) (rule, api.Errno) {
	known := operations(kind)
	if op < api.OpSum || op > api.OpMaxLoc || known == nil {
		return rule{}, api.ErrArg
	}
	do, ok := known[op]
	if !ok {
		return rule{}, api.ErrType
	}
	return rule{op, kind, do}, api.OK
}

// allows reports whether a value is valid.
func (r rule) allows(v api.Value) bool { return v.Place == 0 || r.kind == api.VPair }

// allowsAll reports whether all values of a list are valid.
func (r rule) allowsAll(l []api.Value) bool {
	return !slices.ContainsFunc(l, func(v api.Value) bool { return !r.allows(v) })
}

// operations returns the operations for a kind of values, or nil if there is no such kind.
func operations(kind int) map[int]operation {
	switch kind {
	case api.VInt:
		return ofIntegers()
	case api.VReal:
		return ofReals()
	case api.VPair:
		return ofPairs()
	}
	return nil
}

// onBits makes an operation of a function of the bits of two values without places.
func onBits(f func(a, b uint64) uint64) operation {
	return func(a, b api.Value) api.Value { return api.Value{Bits: f(a.Bits, b.Bits)} }
}

func ofIntegers() map[int]operation {
	truth := func(holds func(a, b bool) bool) operation {
		return onBits(func(a, b uint64) uint64 {
			if holds(a != 0, b != 0) {
				return 1
			}
			return 0
		})
	}
	return map[int]operation{
		api.OpSum:  onBits(func(a, b uint64) uint64 { return a + b }),
		api.OpProd: onBits(func(a, b uint64) uint64 { return a * b }),
		api.OpMin:  onBits(func(a, b uint64) uint64 { return uint64(min(int64(a), int64(b))) }),
		api.OpMax:  onBits(func(a, b uint64) uint64 { return uint64(max(int64(a), int64(b))) }),
		api.OpAnd:  onBits(func(a, b uint64) uint64 { return a & b }),
		api.OpOr:   onBits(func(a, b uint64) uint64 { return a | b }),
		api.OpXor:  onBits(func(a, b uint64) uint64 { return a ^ b }),
		api.OpAll:  truth(func(a, b bool) bool { return a && b }),
		api.OpAny:  truth(func(a, b bool) bool { return a || b }),
	}
}

func ofReals() map[int]operation {
	unlessNaN := func(first func(order int) bool) operation {
		return onBits(func(a, b uint64) uint64 {
			switch {
			case isNaN(a) || isNaN(b):
				return nan
			case first(Compare(a, b)):
				return a
			}
			return b
		})
	}
	return map[int]operation{
		api.OpSum: onBits(func(a, b uint64) uint64 {
			both := factsOf(a)
			both.join(factsOf(b))
			return both.value()
		}),
		api.OpMin: unlessNaN(func(order int) bool { return order < 0 }),
		api.OpMax: unlessNaN(func(order int) bool { return order > 0 }),
	}
}

func ofPairs() map[int]operation {
	best := func(order func(a, b int64) int) operation {
		return func(a, b api.Value) api.Value {
			if cmp.Or(order(int64(a.Bits), int64(b.Bits)), cmp.Compare(a.Place, b.Place)) < 0 {
				return a
			}
			return b
		}
	}
	return map[int]operation{
		api.OpMinLoc: best(cmp.Compare[int64]),
		api.OpMaxLoc: best(func(a, b int64) int { return cmp.Compare(b, a) }),
	}
}

// reduction takes values, one behind the other, and has the result for all that it took, of which there is at least one.
type reduction struct {
	take   func(v api.Value)
	result func() api.Value
}

// begin returns a reduction that took no value.
func (r rule) begin() reduction {
	if r.op == api.OpSum && r.kind == api.VReal {
		return beginExact()
	}
	var so api.Value
	some := false
	take := func(v api.Value) {
		switch {
		case some:
			so = r.do(so, v)
		case r.kind == api.VReal:
			so = api.Value{Bits: oneNaN(v.Bits)}
		default:
			so = v
		}
		some = true
	}
	return reduction{take, func() api.Value { return so }}
}

// beginExact returns a reduction that adds real numbers and rounds once. No list is so long that its sum does not fit.
func beginExact() reduction {
	var so facts
	return reduction{
		take:   func(v api.Value) { so.join(factsOf(v.Bits)) },
		result: func() api.Value { return api.Value{Bits: so.value()} },
	}
}
