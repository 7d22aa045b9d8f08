package comm_test

import (
	"slices"
	"testing"

	"armada/api"
)

const (
	none    = api.NoRank
	highest = int(^uint(0) >> 1)
	lowest  = -highest - 1
)

func list(l ...int) []int { return l }

// upTo returns the numbers from 0 to n - 1.
func upTo(n int) []int {
	l := make([]int, n)
	for i := range l {
		l[i] = i
	}
	return l
}

// times returns n elements that are x.
func times[T any](n int, x T) []T { return slices.Repeat([]T{x}, n) }

// isList fails unless a call returned a list and no error.
func isList(t *testing.T, what string, got []int, e api.Errno, want ...int) {
	t.Helper()
	if e != api.OK || !slices.Equal(got, want) {
		t.Errorf("%s: %v %v, not %v", what, got, e, want)
	}
}

// isError fails unless a call returned an error and an empty list.
func isError(t *testing.T, what string, got []int, e, want api.Errno) {
	t.Helper()
	if e != want || len(got) != 0 {
		t.Errorf("%s: %v %v, not the error %v", what, got, e, want)
	}
}

// isResult fails unless a call returned a list and an error.
func isResult(t *testing.T, what string, got []int, e api.Errno, want []int, f api.Errno) {
	t.Helper()
	if e != f || !slices.Equal(got, want) {
		t.Fatalf("%s: %v %v, not %v %v", what, got, e, want, f)
	}
}

// isNumber fails unless a call returned a number and an error.
func isNumber(t *testing.T, what string, got int, e api.Errno, want int, f api.Errno) {
	t.Helper()
	if got != want || e != f {
		t.Errorf("%s: %v %v, not %v %v", what, got, e, want, f)
	}
}

// dice yields the same numbers in each run of the tests.
type dice uint64

// roll returns a number from 0 to n - 1.
func (d *dice) roll(n int) int {
	*d = *d*6364136223846793005 + 1442695040888963407
	return int(uint64(*d)>>33) % n
}

// shuffled returns the numbers from 0 to n - 1 in some order.
func (d *dice) shuffled(n int) []int {
	l := upTo(n)
	for i := range l {
		j := d.roll(i + 1)
		l[i], l[j] = l[j], l[i]
	}
	return l
}

// group returns some of the processes from 0 to most - 1, in some order.
func (d *dice) group(most int) []int { return d.shuffled(most)[:d.roll(most+1)] }

// ranks returns count numbers, of which few are not ranks of a group of n processes.
func (d *dice) ranks(count, n int) []int {
	l := make([]int, count)
	for i := range l {
		l[i] = d.roll(n+2) - 1
	}
	return l
}

func (d *dice) bools(n int) []bool {
	l := make([]bool, n)
	for i := range l {
		l[i] = d.roll(2) == 0
	}
	return l
}
