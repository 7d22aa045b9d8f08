package window_test

import (
	"slices"
	"testing"

	"armada/api"
	"armada/window"
)

// many returns a list in which an action is repeated.
func many(n int, a act) []act { return slices.Repeat(acts(a), n) }

// P11.1: the numbers of cells and of processes; the cells come first.
func TestSizes(t *testing.T) {
	for cells, want := range map[int]api.Errno{lowest: api.ErrRange, -1: api.ErrRange, 0: api.ErrRange, 1: api.OK, 64: api.OK, 65: api.ErrRange, highest: api.ErrRange} {
		checks(t, of(cells, nil), place{}, want)
	}
	for procs, want := range map[int]api.Errno{0: api.ErrMany, 1: api.OK, 64: api.OK, 65: api.ErrMany} {
		checks(t, of(1, make([][]act, procs)...), place{}, want)
	}
	fails(t, of(0), place{}, api.ErrRange)
	fails(t, of(65, acts(act{})), place{}, api.ErrRange)
	wrong := slices.Repeat([][]act{acts(act{})}, 65)
	fails(t, of(1, wrong...), place{}, api.ErrMany)
	fails(t, of(1, wrong[:64]...), place{}, api.ErrArg)
}

// P11.1: the number of actions is examined process by process, and before the actions.
func TestNumberOfActs(t *testing.T) {
	checks(t, of(1, many(100, fence), many(100, load(0))), place{}, api.OK)
	fails(t, of(1, nil, many(101, act{}), many(102, fence)), place{Rank: 1, Index: 100}, api.ErrMany)
	fails(t, of(1, acts(fence, act{}), many(101, fence)), place{Rank: 0, Index: 1}, api.ErrArg)
	fails(t, of(1, acts(lock(0)), many(101, fence)), place{Rank: 0, Index: 1}, api.ErrState)
	fails(t, of(1, slices.Concat(many(99, fence), acts(lock(0)))), place{Index: 100}, api.ErrState)
}

// P11.1: each kind with a wrong value in each field; only the fields of the kind matter.
func TestFields(t *testing.T) {
	const hasRank, hasAt, hasOp, hasGroup = 1, 2, 4, 8
	fields := []int{
		window.Put: hasRank | hasAt, window.Get: hasRank | hasAt, window.Acc: hasRank | hasAt | hasOp, window.Fetch: hasRank | hasAt | hasOp, window.Swap: hasRank | hasAt,
		window.Load: hasAt, window.Store: hasAt, window.Fence: 0, window.Post: hasGroup, window.Start: hasGroup, window.Complete: 0, window.Wait: 0,
		window.Lock: hasRank, window.Share: hasRank, window.Flush: hasRank, window.Unlock: hasRank,
	}
	before := map[int][]act{
		window.Put: acts(fence), window.Get: acts(fence), window.Acc: acts(fence), window.Fetch: acts(fence), window.Swap: acts(fence),
		window.Complete: acts(start(0)), window.Wait: acts(post(0)), window.Flush: acts(lock(0)), window.Unlock: acts(lock(0)),
	}
	behind := map[int][]act{
		window.Put: acts(fence), window.Get: acts(fence), window.Acc: acts(fence), window.Fetch: acts(fence), window.Swap: acts(fence),
		window.Post: acts(wait), window.Start: acts(complete), window.Lock: acts(unlock(0)), window.Share: acts(unlock(0)), window.Flush: acts(unlock(0)),
	}
	for kind := 1; kind <= 16; kind++ {
		for _, x := range []struct {
			field int
			spoil func(a *act)
			want  api.Errno
		}{
			{0, func(a *act) {}, api.OK},
			{0, func(a *act) { a.Value, a.Other = least, most }, api.OK},
			{hasRank, func(a *act) { a.Rank = -1 }, api.ErrRank},
			{hasRank, func(a *act) { a.Rank = 3 }, api.ErrRank},
			{hasRank, func(a *act) { a.Rank = highest }, api.ErrRank},
			{hasAt, func(a *act) { a.At, a.Op = -1, 0 }, api.ErrRange},
			{hasAt, func(a *act) { a.At = 2 }, api.ErrRange},
			{hasAt, func(a *act) { a.At = lowest }, api.ErrRange},
			{hasOp, func(a *act) { a.Op = 0 }, api.ErrArg},
			{hasOp, func(a *act) { a.Op = 12 }, api.ErrArg},
			{hasOp, func(a *act) { a.Op = api.OpMinLoc }, api.ErrType},
			{hasOp, func(a *act) { a.Op = api.OpMaxLoc }, api.ErrType},
			{hasGroup, func(a *act) { a.Group = nil }, api.ErrArg},
			{hasGroup, func(a *act) { a.Group = []int{} }, api.ErrArg},
			{hasGroup, func(a *act) { a.Group = []int{1} }, api.ErrRank},
			{hasGroup, func(a *act) { a.Group = []int{0, -1, 0} }, api.ErrRank},
			{hasGroup, func(a *act) { a.Group = []int{3} }, api.ErrRank},
			{hasGroup, func(a *act) { a.Group = []int{2, 0, 2, 3} }, api.ErrHave},
			{hasGroup, func(a *act) { a.Group = []int{0, 0, 1} }, api.ErrHave},
			{hasGroup, func(a *act) { a.Group = []int{2, 1, 1} }, api.ErrRank},
		} {
			a := act{Kind: kind, Op: api.OpSum, Group: []int{0, 2}}
			x.spoil(&a)
			p := of(2, nil, slices.Concat(before[kind], acts(a), behind[kind]), nil)
			want, at := api.OK, place{}
			if fields[kind]&x.field != 0 {
				want, at = x.want, place{Rank: 1, Index: len(before[kind])}
			}
			checks(t, p, at, want)
		}
	}
	for _, kind := range []int{0, -1, 17, lowest, highest} {
		fails(t, of(2, acts(load(0)), acts(act{Kind: kind, Rank: 9, At: 9})), place{Rank: 1}, api.ErrArg)
	}
}

// P11.1: the fields of an action are examined before whether it is allowed; the first action with an error decides.
func TestOrderOfErrors(t *testing.T) {
	for _, x := range []struct {
		a    act
		want api.Errno
	}{
		{act{Kind: 17, Rank: 5}, api.ErrArg},
		{put(2, 1, 0), api.ErrRank},
		{put(1, 1, 0), api.ErrRange},
		{acc(2, 1, 0, 0), api.ErrRank},
		{acc(1, 1, 0, 0), api.ErrRange},
		{acc(1, 0, 0, 0), api.ErrArg},
		{fetch(1, 0, api.OpMinLoc, 0), api.ErrType},
		{fetch(1, 0, api.OpMin, 0), api.ErrState},
		{start(), api.ErrArg},
		{start(0), api.ErrRank},
		{start(1, 1), api.ErrHave},
		{start(1), api.ErrState},
		{post(0, 0), api.ErrRank},
		{post(1), api.ErrState},
		{flush(2), api.ErrRank},
		{flush(1), api.ErrState},
		{lock(-1), api.ErrRank},
		{lock(0), api.ErrState},
	} {
		fails(t, of(1, acts(lock(0), load(0), x.a, act{}), acts(act{})), place{Index: 2}, x.want)
	}
}

// allowed says whether the last actions are allowed behind others, which are.
func allowed(t *testing.T, before []act, behind []act, want map[int]bool) {
	t.Helper()
	ways := map[int]act{
		window.Load: load(0), window.Store: store(0, 1), window.Fence: fence, window.Post: post(2), window.Start: start(2), window.Complete: complete,
		window.Wait: wait, window.Lock: lock(2), window.Share: share(0), window.Flush: flush(1), window.Unlock: unlock(1), window.Put: put(1, 0, 0), window.Swap: swap(1, 0, 0, 0),
	}
	for kind, a := range ways {
		p := of(1, slices.Concat(before, acts(a), behind), nil, nil)
		at, e := window.Check(p)
		if is := e == api.OK || at.Index > len(before); is != want[kind] || !is && (e != api.ErrState || at != place{Index: len(before)}) {
			t.Error(p, at, e)
		}
	}
}

// P11.1: what is allowed in each state of the epochs.
func TestAllowed(t *testing.T) {
	with := func(kinds ...int) map[int]bool {
		m := map[int]bool{window.Load: true, window.Store: true}
		for _, kind := range kinds {
			m[kind] = true
		}
		return m
	}
	closed := []int{window.Fence, window.Post, window.Start, window.Lock, window.Share}
	allowed(t, nil, nil, with(closed...))
	allowed(t, acts(fence), acts(fence), with(append(closed, window.Put, window.Swap)...))
	allowed(t, acts(start(1)), nil, with(window.Put, window.Swap, window.Post, window.Complete))
	allowed(t, acts(start(2)), nil, with(window.Post, window.Complete))
	allowed(t, acts(start(2, 1), complete), nil, with(closed...))
	allowed(t, acts(post(1)), nil, with(window.Start, window.Lock, window.Share, window.Wait))
	allowed(t, acts(post(1), wait), nil, with(closed...))
	allowed(t, acts(post(1), start(2)), nil, with(window.Complete, window.Wait))
	allowed(t, acts(post(2), start(1), wait), nil, with(window.Complete, window.Put, window.Swap, window.Post))
	for _, hold := range []act{lock(1), share(1)} {
		allowed(t, acts(hold), nil, with(window.Put, window.Swap, window.Flush, window.Unlock))
		allowed(t, acts(post(1), hold, flush(1)), nil, with(window.Put, window.Swap, window.Flush, window.Unlock))
		allowed(t, acts(hold, unlock(1)), nil, with(closed...))
		allowed(t, acts(post(1), hold, unlock(1)), nil, with(window.Start, window.Lock, window.Share, window.Wait))
	}
	allowed(t, acts(lock(2)), nil, with())
	allowed(t, acts(fence, lock(2)), acts(fence), with())
	allowed(t, acts(fence, start(2)), acts(fence), with(window.Post, window.Complete))
}

// P11.1: accesses between fences: a Fence is before, and one is behind before another epoch begins, and before the end.
func TestFenceAccesses(t *testing.T) {
	for _, a := range []act{put(1, 0, 0), get(0, 0), acc(1, 0, api.OpSum, 1), fetch(0, 0, api.OpMin, 1), swap(1, 0, 1, 1)} {
		for _, x := range []struct {
			before, behind []act
			want           bool
		}{
			{acts(fence), acts(fence), true},
			{acts(fence), nil, false},
			{nil, acts(fence), false},
			{acts(fence), acts(load(0), fence, start(1), complete), true},
			{acts(fence), acts(load(0), start(1), complete, fence), false},
			{acts(fence), acts(lock(1), unlock(1), fence), false},
			{acts(fence), acts(share(1), unlock(1), fence), false},
			{acts(fence), acts(post(1), wait, fence), true},
			{acts(fence, post(1)), acts(wait, fence), true},
			{acts(fence, lock(1), unlock(1)), acts(fence), true},
			{acts(fence, start(1), complete), acts(fence, lock(0), unlock(0)), true},
			{acts(fence, fence), acts(fence, fence), true},
			{acts(start(1), complete), acts(fence), false},
			{acts(fence), acts(act{Kind: 99}, fence), true},
		} {
			at, e := window.Check(of(1, slices.Concat(x.before, acts(a), x.behind), nil))
			if is := e == api.OK || at.Index != len(x.before); is != x.want {
				t.Error(x, a, at, e)
			}
		}
	}
}

// P11.1: at the end nothing is open.
func TestEnd(t *testing.T) {
	for _, l := range [][]act{acts(start(1)), acts(post(1)), acts(lock(1)), acts(share(0)), acts(post(1), start(1), complete), acts(post(1), start(1), wait), acts(lock(0), flush(0)), acts(post(1), lock(1), unlock(1))} {
		fails(t, of(1, l, acts(act{})), place{Index: len(l)}, api.ErrState)
		fails(t, of(1, nil, nil, slices.Concat(acts(load(0)), l), acts(act{})), place{Rank: 2, Index: len(l) + 1}, api.ErrState)
	}
	for _, l := range [][]act{acts(start(1), complete), acts(post(1), wait), acts(share(0), unlock(0)), acts(post(1), start(1), wait, complete), acts(post(1), lock(0), unlock(0), wait)} {
		checks(t, of(1, l, nil), place{}, api.OK)
	}
}
