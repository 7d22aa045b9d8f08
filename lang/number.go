package lang

import (
	"math"

	"armada/api"
)

// binary returns the result of an operation for two values.
func binary(op int, a, b int64) (int64, api.Errno) {
	switch op {
	case NAdd:
		return sumOf(a, b)
	case NSub:
		return differenceOf(a, b)
	case NMul:
		return productOf(a, b)
	case NDiv:
		return quotientOf(a, b)
	case NMod:
		return restOf(a, b)
	}
	return truth(holds(op, a, b)), api.OK
}

func sumOf(a, b int64) (int64, api.Errno) {
	if b > 0 && a > math.MaxInt64-b || b < 0 && a < math.MinInt64-b {
		return 0, api.ErrOver
	}
	return a + b, api.OK
}

func differenceOf(a, b int64) (int64, api.Errno) {
	if b < 0 && a > math.MaxInt64+b || b > 0 && a < math.MinInt64+b {
		return 0, api.ErrOver
	}
	return a - b, api.OK
}

func productOf(a, b int64) (int64, api.Errno) {
	c := a * b
	// the quotient of the least value and -1 wraps around to the least value
	if a != 0 && (c/a != b || a == -1 && b == math.MinInt64) {
		return 0, api.ErrOver
	}
	return c, api.OK
}

// quotientOf returns a / b, rounded down.
func quotientOf(a, b int64) (int64, api.Errno) {
	switch {
	case b == 0:
		return 0, api.ErrArg
	case a == math.MinInt64 && b == -1:
		return 0, api.ErrOver
	case a%b != 0 && (a < 0) != (b < 0):
		return a/b - 1, api.OK
	}
	return a / b, api.OK
}

// restOf returns a less b times their quotient, which fits also where the quotient does not.
func restOf(a, b int64) (int64, api.Errno) {
	if b == 0 {
		return 0, api.ErrArg
	}
	c := a % b
	if c != 0 && (c < 0) != (b < 0) {
		c += b
	}
	return c, api.OK
}

func holds(op int, a, b int64) bool {
	switch op {
	case NEq:
		return a == b
	case NNe:
		return a != b
	case NLt:
		return a < b
	case NLe:
		return a <= b
	case NGt:
		return a > b
	case NGe:
		return a >= b
	case NAnd:
		return a != 0 && b != 0
	}
	return a != 0 || b != 0 // NOr
}

func truth(is bool) int64 {
	if is {
		return 1
	}
	return 0
}
