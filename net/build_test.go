package net_test

import (
	"slices"
	"testing"

	"armada/api"
	"armada/net"
)

const (
	highest = int(^uint(0) >> 1)
	lowest  = -highest - 1
)

func list(l ...int) []int { return l }

// torus returns a torus with one host for each switch.
func torus(sides ...int) net.Spec { return net.Spec{Kind: net.Torus, Sides: sides, Hosts: 1} }

// tree returns the tree with the sides k and n.
func tree(k, n int) net.Spec { return net.Spec{Kind: net.Tree, Sides: list(k, n), Hosts: k} }

// dragonfly returns a dragonfly with one host for each switch.
func dragonfly(a, h int) net.Spec { return net.Spec{Kind: net.Dragonfly, Sides: list(a, h), Hosts: 1} }

// smallNetworks returns networks of few switches, of all kinds.
func smallNetworks() []net.Spec {
	return []net.Spec{
		torus(2), torus(3), torus(4), torus(5), torus(2, 2), torus(2, 3), torus(3, 2), torus(3, 4), torus(4, 3), torus(2, 2, 2), torus(2, 3, 2), torus(2, 2, 2, 2),
		tree(2, 1), tree(2, 2), tree(2, 3), tree(3, 1), tree(3, 2), tree(8, 1),
		dragonfly(1, 1), dragonfly(1, 2), dragonfly(1, 4), dragonfly(2, 1), dragonfly(2, 2), dragonfly(3, 1),
	}
}

// mediumNetworks returns networks of some more switches, of all kinds.
func mediumNetworks() []net.Spec {
	return []net.Spec{
		torus(16), torus(15), torus(5, 6), torus(7, 2), torus(4, 3, 5), torus(3, 2, 4, 2),
		tree(2, 4), tree(3, 3), tree(4, 3), tree(8, 2), tree(5, 2),
		dragonfly(2, 3), dragonfly(3, 2), dragonfly(4, 1), dragonfly(4, 3), dragonfly(2, 4), dragonfly(7, 1),
	}
}

// everyNetwork calls f with all valid networks with one number of hosts for each kind and list of sides.
func everyNetwork(f func(s net.Spec)) {
	var tori func(sides []int)
	tori = func(sides []int) {
		if len(sides) > 0 {
			f(torus(sides...))
		}
		for side := 2; side <= 16; side++ {
			if more := append(slices.Clone(sides), side); net.Check(torus(more...)) == api.OK {
				tori(more)
			}
		}
	}
	tori(nil)
	for a := 1; a <= 16; a++ {
		for b := 1; b <= 4; b++ {
			for _, s := range []net.Spec{tree(a, b), dragonfly(a, b)} {
				if net.Check(s) == api.OK {
					f(s)
				}
			}
		}
	}
}

// must returns a function that returns the result of a call, which is not to have an error.
func must[T any](t *testing.T) func(x T, e api.Errno) T {
	return func(x T, e api.Errno) T {
		t.Helper()
		if e != api.OK {
			t.Fatal("the error", e)
		}
		return x
	}
}

// damaged returns a network without damage.
func damaged(t *testing.T, s net.Spec) *net.Net {
	t.Helper()
	n, e := net.New(s)
	if e != api.OK || n == nil {
		t.Fatal(s, e)
	}
	return n
}

// isList fails unless a call returned a list and no error.
func isList(t *testing.T, what string, got []int, e api.Errno, want ...int) {
	t.Helper()
	if e != api.OK || !slices.Equal(got, want) {
		t.Errorf("%s: %v %v, not %v", what, got, e, want)
	}
}

// isError fails unless a call returned an error and an empty list.
func isError[T any](t *testing.T, what string, got []T, e, want api.Errno) {
	t.Helper()
	if e != want || len(got) != 0 {
		t.Errorf("%s: %v %v, not the error %v", what, got, e, want)
	}
}

// isNumber fails unless a call returned a number and an error.
func isNumber(t *testing.T, what string, got int, e api.Errno, want int, f api.Errno) {
	t.Helper()
	if got != want || e != f {
		t.Errorf("%s: %v %v, not %v %v", what, got, e, want, f)
	}
}

// isTruth fails unless a call returned a truth value and an error.
func isTruth(t *testing.T, what string, got bool, e api.Errno, want bool, f api.Errno) {
	t.Helper()
	if got != want || e != f {
		t.Errorf("%s: %v %v, not %v %v", what, got, e, want, f)
	}
}

// is fails unless a call returned an error.
func is(t *testing.T, what string, got, want api.Errno) {
	t.Helper()
	if got != want {
		t.Errorf("%s: %v, not %v", what, got, want)
	}
}

// scratch overwrites a result.
func scratch[T any](l []T, x T) {
	l = l[:cap(l)]
	for i := range l {
		l[i] = x
	}
}

// dice yields the same numbers in each run of the tests.
type dice uint64

// roll returns a number from 0 to n - 1.
func (d *dice) roll(n int) int {
	*d = *d*6364136223846793005 + 1442695040888963407
	return int(uint64(*d)>>33) % n
}

// side returns some of n switches.
func (d *dice) side(n int) []bool {
	l := make([]bool, n)
	for i := range l {
		l[i] = d.roll(2) == 0
	}
	return l
}
