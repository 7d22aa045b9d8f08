package window_test

import (
	"testing"

	"armada/api"
	"armada/window"
)

// P11.3: which kinds of accesses to one cell conflict.
func TestConflicts(t *testing.T) {
	l := acts(put(2, 0, 1), get(2, 0), acc(2, 0, api.OpSum, 1), acc(2, 0, api.OpMax, 1), fetch(2, 0, api.OpSum, 1), fetch(2, 0, api.OpMax, 1), swap(2, 0, 1, 0))
	for i, a := range l {
		for k, b := range l {
			want := !(a.Kind == window.Get && b.Kind == window.Get) && !(a.Kind == window.Acc && b.Kind == window.Acc && i == k)
			p := of(2, acts(fence, a, fence), acts(fence, b, fence), acts(fence, fence))
			if got := len(races(t, p)) == 1; got != want {
				t.Error(a, b, got)
			}
			elsewhere := b
			elsewhere.At = 1
			racesAre(t, of(2, acts(fence, a, fence), acts(fence, elsewhere, fence), acts(fence, fence)))
			elsewhere.At, elsewhere.Rank = 0, 1
			racesAre(t, of(2, acts(fence, a, fence), acts(fence, elsewhere, fence), acts(fence, fence)))
		}
		p := of(2, acts(fence, a, fence), nil, acts(fence, load(0), load(1), store(1, 1), store(0, 1), fence))
		if a.Kind == window.Get {
			racesAre(t, p, race(0, 1, 2, 4))
		} else {
			racesAre(t, p, race(0, 1, 2, 1), race(0, 1, 2, 4))
		}
	}
}

// P11.3: local accesses complete themselves; those of one process never race, and those of different processes have different cells.
func TestLocalAccesses(t *testing.T) {
	racesAre(t, of(1, acts(store(0, 1), load(0), store(0, 2)), acts(store(0, 1))))
	racesAre(t, of(1, acts(fence, load(0), put(0, 0, 1), fence, store(0, 1))))
	racesAre(t, of(1, acts(fence, put(0, 0, 1), load(0), fence, load(0))), race(0, 1, 0, 2))
	racesAre(t, of(1, acts(fence, put(0, 0, 1), store(0, 1), fence)), race(0, 1, 0, 2))
	racesAre(t, of(1, acts(fence, get(0, 0), load(0), store(0, 1), fence)), race(0, 1, 0, 3))
}

// P11.3: accesses of one process are ordered by what completes the first one, and updates to one cell by their places.
func TestAccessesOfOneProcess(t *testing.T) {
	sum, most := acc(1, 0, api.OpSum, 1), acc(1, 0, api.OpMax, 1)
	racesAre(t, of(2, acts(fence, sum, most, swap(1, 0, 1, 2), fetch(1, 0, api.OpSum, 1), fence), acts(fence, fence)))
	racesAre(t, of(2, acts(fence, sum, get(1, 0), fence), acts(fence, fence)), race(0, 1, 0, 2))
	racesAre(t, of(2, acts(fence, put(1, 0, 1), sum, fence, put(1, 0, 1), fence), acts(fence, fence)), race(0, 1, 0, 2))
	racesAre(t, of(2, acts(fence, put(1, 0, 1), put(1, 1, 1), put(0, 0, 1), fence), acts(fence, fence)))
	racesAre(t, of(1, acts(lock(1), put(1, 0, 1), flush(1), put(1, 0, 2), get(1, 0), unlock(1), lock(1), put(1, 0, 3), unlock(1)), nil), race(0, 3, 0, 4))
	racesAre(t, of(1, acts(start(1), put(1, 0, 1), complete, start(1), put(1, 0, 2), put(1, 0, 3), complete), acts(post(0), wait, post(0), wait)), race(0, 4, 0, 5))
}

// P11.3: epochs of groups, which order accesses from the Post to the Start and from the Complete to the Wait.
func TestRacesOfGroups(t *testing.T) {
	origin := acts(start(1), put(1, 0, 7), complete)
	racesAre(t, of(1, origin, acts(store(0, 1), post(0), wait, load(0))))
	racesAre(t, of(1, origin, acts(post(0), load(0), wait)), race(0, 1, 1, 1))
	racesAre(t, of(1, acts(start(2), put(2, 0, 1), complete), acts(start(2), put(2, 0, 2), complete), acts(post(0, 1), wait)), race(0, 1, 1, 1))
	racesAre(t, of(1, acts(start(2), put(2, 0, 1), complete), acts(start(2), put(2, 0, 2), complete), acts(post(0), wait, post(1), wait)))
	racesAre(t, of(1, acts(start(2), acc(2, 0, api.OpSum, 1), complete), acts(start(2), acc(2, 0, api.OpSum, 2), complete), acts(post(0, 1), wait)))
}

// P11.3: a remote access is ordered by the end of its epoch, not by its own place.
func TestRacesBeforeCompletion(t *testing.T) {
	racesAre(t, of(1, acts(fence, put(1, 0, 1), post(2), wait, fence), acts(fence, fence), acts(fence, start(0), complete, lock(1), get(1, 0), unlock(1), fence)), race(0, 1, 2, 4))
	racesAre(t, of(1, acts(lock(1), put(1, 0, 1), flush(1), unlock(1), fence), acts(fence), acts(fence, share(1), get(1, 0), unlock(1))))
	racesAre(t, of(1, acts(lock(1), put(1, 0, 1), unlock(1)), nil, acts(lock(1), put(1, 0, 1), unlock(1))), race(0, 1, 2, 1))
}

// P11.3: pairs are sorted by the first place and then by the second one, whatever their processes are.
func TestOrderOfPairs(t *testing.T) {
	racesAre(t, of(1, acts(fence, put(0, 0, 1), fence, load(0)), acts(lock(0), get(0, 0), put(0, 0, 1), unlock(0)), acts(fence, get(0, 0), get(0, 0), fence)),
		race(0, 1, 1, 1), race(0, 1, 1, 2), race(0, 1, 2, 1), race(0, 1, 2, 2), race(0, 3, 1, 2), race(1, 1, 1, 2), race(1, 2, 2, 1), race(1, 2, 2, 2))
}

// P11.3: in a circle of processes that wait for each other in vain, accesses that come before each other do not race.
func TestRacesInCircle(t *testing.T) {
	first := acts(start(1), complete, store(0, 1), post(1), wait)
	racesAre(t, of(1, first, acts(start(0), complete, lock(0), put(0, 0, 1), unlock(0), post(0), wait)))
	racesAre(t, of(1, acts(start(1), complete, post(1), wait, store(0, 1)), acts(start(0), complete, post(0), wait, lock(0), put(0, 0, 1), unlock(0))), race(0, 4, 1, 5))
}
