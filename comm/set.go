package comm

import (
	"iter"

	"armada/api"
)

// set says for each process, or for each rank, whether it is in a set.
type set [api.MaxRanks]bool

// add adds a number to a set of numbers from 0 to n - 1, unless it is out of range or there already.
func (s *set) add(x, n int) api.Errno {
	switch {
	case x < 0 || x >= n:
		return api.ErrRank
	case s[x]:
		return api.ErrHave
	}
	s[x] = true
	return api.OK
}

// setOf returns the set of the elements of a list, which are different, from 0 to n - 1.
func setOf(l []int, n int) (set, api.Errno) {
	var s set
	for _, x := range l {
		if e := s.add(x, n); e != api.OK {
			return set{}, e
		}
	}
	return s, api.OK
}

// groupSet returns the processes of a group, or its error.
func groupSet(g []int) (set, api.Errno) {
	if len(g) > api.MaxRanks {
		return set{}, api.ErrMany
	}
	return setOf(g, api.MaxRanks)
}

// groupSets returns the processes of two groups, or the error of the first one, or else that of the second one.
func groupSets(a, b []int) (set, set, api.Errno) {
	s, e := groupSet(a)
	if e != api.OK {
		return set{}, set{}, e
	}
	t, e := groupSet(b)
	if e != api.OK {
		return set{}, set{}, e
	}
	return s, t, api.OK
}

// rankSet returns the set of some ranks of a group, or the error of the group, or else that of the ranks.
func rankSet(g, ranks []int) (set, api.Errno) {
	if e := Check(g); e != api.OK {
		return set{}, e
	}
	return setOf(ranks, len(g))
}

// choose returns the elements of a list whose indexes are wanted, in order.
func choose[T any](l []T, wanted func(i int) bool) []T {
	var out []T
	for i, x := range l {
		if wanted(i) {
			out = append(out, x)
		}
	}
	return out
}

// withRanks returns the processes of a group with some ranks, in the order of these.
func withRanks(g, ranks []int) []int {
	out := make([]int, len(ranks))
	for i, r := range ranks {
		out[i] = g[r]
	}
	return out
}

// strides yields first, first + stride, .., as long as these are not beyond last; stride is not 0. It counts down the way that is left, without a sign, so that no number wraps around.
func strides(first, last, stride int) iter.Seq[int] {
	return func(yield func(int) bool) {
		if stride > 0 && first > last || stride < 0 && first < last {
			return
		}
		left, step := uint(last)-uint(first), uint(stride)
		if stride < 0 {
			left, step = -left, -step
		}
		for x := first; yield(x) && left >= step; x += stride {
			left -= step
		}
	}
}
