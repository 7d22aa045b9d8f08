package coll_test

import (
	"testing"

	"armada/api"
	"armada/coll"
)

// P9.3: Sound returns the first error of the first step that has one.
func TestSoundErrors(t *testing.T) {
	x := task(coll.Allreduce, 4, 0, 3)
	good := [6]int{1, 1, 2, 1, 1, 0}
	for _, c := range []struct {
		want  api.Errno
		steps [][6]int
	}{
		{api.OK, nil},
		{api.OK, [][6]int{good}},
		{api.OK, [][6]int{{0, 0, 0, 0, 0, 0}, {255, 3, 3, 2, 2, 2}}},
		// one step
		{api.ErrRange, [][6]int{{-1, 1, 2, 1, 1, 0}}},
		{api.ErrRange, [][6]int{{256, 1, 2, 1, 1, 0}}},
		{api.ErrRange, [][6]int{{lowest, 9, 9, 9, 9, 9}}},
		{api.ErrRange, [][6]int{{highest, 1, 2, 1, 1, 0}}},
		{api.ErrRank, [][6]int{{1, -1, 2, 1, 1, 0}}},
		{api.ErrRank, [][6]int{{1, 4, 2, 1, 1, 0}}},
		{api.ErrRank, [][6]int{{1, 1, -1, 1, 1, 0}}},
		{api.ErrRank, [][6]int{{1, 1, 4, 3, 3, 3}}},
		{api.ErrRank, [][6]int{{1, highest, lowest, -1, 3, 3}}},
		{api.ErrRange, [][6]int{{1, 1, 2, -1, 1, 0}}},
		{api.ErrRange, [][6]int{{1, 1, 2, 3, 1, 0}}},
		{api.ErrRange, [][6]int{{1, 1, 2, 1, -1, 3}}},
		{api.ErrRange, [][6]int{{1, 1, 2, 1, 3, -1}}},
		{api.ErrArg, [][6]int{{1, 1, 2, 1, 1, 3}}},
		{api.ErrArg, [][6]int{{1, 1, 2, 1, 1, -1}}},
		// the order
		{api.ErrArg, [][6]int{good, good}},
		{api.ErrArg, [][6]int{good, {1, 1, 2, 1, 1, 1}}},
		{api.ErrArg, [][6]int{good, {0, 2, 3, 2, 2, 0}}},
		{api.ErrArg, [][6]int{good, {1, 0, 3, 2, 2, 0}}},
		{api.ErrArg, [][6]int{good, {1, 1, 1, 2, 2, 0}}},
		{api.ErrArg, [][6]int{good, {1, 1, 2, 0, 2, 0}}},
		{api.ErrArg, [][6]int{good, {1, 1, 2, 1, 0, 0}}},
		{api.OK, [][6]int{good, {1, 1, 2, 1, 2, 0}}},
		{api.OK, [][6]int{good, {1, 1, 2, 2, 0, 0}}},
		{api.OK, [][6]int{good, {1, 2, 1, 0, 0, 0}}},
		{api.OK, [][6]int{good, {2, 0, 0, 0, 0, 0}}},
		// slots that are written twice
		{api.ErrHave, [][6]int{good, {1, 1, 2, 2, 1, 0}}},
		{api.ErrHave, [][6]int{good, {1, 2, 2, 0, 1, 0}}},
		{api.ErrHave, [][6]int{good, {1, 3, 2, 0, 1, 0}}},
		{api.ErrHave, [][6]int{{1, 0, 0, 0, 0, 0}, {1, 0, 0, 1, 0, 1}}},
		{api.OK, [][6]int{good, {1, 3, 1, 0, 1, 0}}},
		{api.OK, [][6]int{good, {2, 3, 2, 0, 1, 0}}},
		// several peers
		{api.ErrState, [][6]int{good, {1, 1, 3, 1, 1, 0}}},
		{api.ErrState, [][6]int{{1, 1, 0, 0, 0, 0}, good}},
		{api.ErrState, [][6]int{good, {1, 3, 2, 0, 2, 0}}},
		{api.ErrState, [][6]int{{1, 0, 2, 0, 2, 0}, good}},
		{api.OK, [][6]int{good, {1, 2, 1, 1, 1, 0}, {1, 3, 0, 1, 1, 0}}},
		{api.OK, [][6]int{{1, 0, 1, 0, 0, 0}, good, {1, 2, 3, 0, 0, 0}, {1, 3, 0, 0, 0, 0}}},
		{api.OK, [][6]int{good, {2, 1, 3, 1, 1, 0}, {3, 3, 2, 1, 1, 0}}},
		// local steps do not count
		{api.OK, [][6]int{{1, 1, 1, 0, 0, 0}, good, {1, 2, 2, 0, 0, 0}}},
		{api.OK, [][6]int{{1, 1, 1, 0, 0, 0}, {1, 1, 1, 0, 2, 1}, good}},
		{api.OK, [][6]int{{1, 0, 2, 0, 0, 0}, {1, 2, 2, 0, 2, 0}, {1, 2, 3, 0, 0, 0}, {1, 3, 3, 0, 2, 0}}},
		{api.ErrState, [][6]int{{1, 1, 0, 0, 0, 0}, {1, 1, 1, 0, 0, 0}, good}},
		{api.ErrState, [][6]int{{1, 1, 2, 0, 0, 0}, {1, 2, 2, 0, 1, 0}, {1, 3, 2, 0, 2, 0}}},
		// which one is first
		{api.ErrArg, [][6]int{{1, 1, 2, 1, 1, 7}, {999, 1, 2, 1, 1, 0}}},
		{api.ErrRange, [][6]int{good, {999, 9, 9, 1, 1, 0}}},
		{api.ErrRank, [][6]int{good, {0, 9, 9, 9, 9, 9}}},
		{api.ErrRange, [][6]int{good, {0, 1, 2, 9, 1, 9}}},
		{api.ErrArg, [][6]int{good, {0, 1, 2, 1, 1, 0}, {1, 1, 2, 1, 1, 9}}},
		{api.ErrHave, [][6]int{good, {1, 3, 2, 0, 1, 0}, {1, 3, 1, 0, 1, 0}}},
		{api.ErrState, [][6]int{good, {1, 1, 3, 1, 1, 0}, {1, 2, 2, 1, 1, 0}}},
	} {
		isSound(t, of(x, c.steps...), c.want)
	}
}

// P9.3: the slots and processes are those of the task.
func TestSoundLimits(t *testing.T) {
	for _, x := range tasks(5, 2) {
		n, p := modelSlots(x), x.Procs
		isSound(t, of(x, [6]int{0, p - 1, p - 1, n - 1, n - 1, 0}), api.OK)
		isSound(t, of(x, [6]int{0, p, 0, 0, 0, 0}), api.ErrRank)
		isSound(t, of(x, [6]int{0, 0, p, 0, 0, 0}), api.ErrRank)
		isSound(t, of(x, [6]int{0, 0, 0, n, 0, 0}), api.ErrRange)
		isSound(t, of(x, [6]int{0, 0, 0, 0, n, 0}), api.ErrRange)
	}
}

// P9.3: the algorithm can be any number.
func TestSoundAlg(t *testing.T) {
	for _, alg := range []int{lowest, -1, 0, coll.Ring, 99, highest} {
		s := made(t, task(coll.Bcast, 5, 2, 2), coll.Tree)
		s.Alg = alg
		isSound(t, s, api.OK)
		isRight(t, s, true, true)
	}
}

// P9.3: Rounds returns one more than the greatest round.
func TestRounds(t *testing.T) {
	x := task(coll.Scan, 3, 0, 2)
	for _, c := range []struct {
		want  int
		steps [][6]int
	}{
		{0, nil},
		{1, [][6]int{{0, 0, 0, 0, 0, 0}}},
		{4, [][6]int{{3, 1, 0, 0, 0, 0}}},
		{256, [][6]int{{3, 1, 0, 0, 0, 0}, {255, 0, 0, 0, 0, 0}}},
		{8, [][6]int{{7, 1, 0, 0, 0, 0}, {7, 2, 1, 0, 0, 0}}},
	} {
		if n, e := coll.Rounds(of(x, c.steps...)); n != c.want || e != api.OK {
			t.Error(c, n, e)
		}
	}
}
