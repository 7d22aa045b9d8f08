package window_test

import (
	"testing"

	"armada/api"
	"armada/window"
)

// orderIs says for each two places whether the first one comes before the second one: a row for each place, and a letter for each second one, x for yes.
func orderIs(t *testing.T, p program, want ...string) {
	t.Helper()
	for i, x := range places(p) {
		got := ""
		for _, y := range places(p) {
			got += []string{".", "x"}[truth(comes(t, p, x, y))]
		}
		if got != want[i] {
			t.Errorf("%v: %v comes before %s, want %s", p, x, got, want[i])
		}
	}
}

// P11.2: places that do not exist.
func TestNoPlace(t *testing.T) {
	p := of(1, acts(fence), nil, acts(fence, fence))
	good := place{Rank: 2, Index: 1}
	for _, x := range []place{{0, 1}, {0, -1}, {1, 0}, {2, 2}, {3, 0}, {-1, 0}, {highest, 0}, {lowest, 0}, {0, highest}, {0, lowest}} {
		for _, pair := range [][2]place{{x, good}, {good, x}, {x, x}} {
			if is, e := window.Before(p, pair[0], pair[1]); is || e != api.ErrRange {
				t.Error(pair, is, e)
			}
		}
	}
	if is, e := window.Before(of(0, acts(fence)), place{5, 5}, place{}); is || e != api.ErrRange {
		t.Error(is, e)
	}
	if is, e := window.Before(of(1, acts(act{})), place{5, 5}, place{}); is || e != api.ErrArg {
		t.Error(is, e)
	}
}

// P11.2: within a process, and nothing between processes without signals; locks give no order.
func TestOrderWithin(t *testing.T) {
	orderIs(t, of(1, acts(load(0), load(0), load(0)), acts(load(0))), ".xx.", "..x.", "....", "....")
	orderIs(t, of(1, acts(lock(0), unlock(0)), acts(lock(0), unlock(0))), ".x..", "....", "...x", "....")
}

// P11.2: a Fence orders what is before it, and itself, before what is behind the Fence of another process; the fences themselves are not ordered.
func TestOrderOfFences(t *testing.T) {
	orderIs(t, of(1, acts(load(0), fence, load(0)), acts(load(0), fence, load(0))),
		".xx..x", "..x..x", "......", "..x.xx", "..x..x", "......")
	orderIs(t, of(1, acts(fence, fence), acts(fence, load(0), fence, load(0)), acts(fence)),
		".x.xxx.", ".....x.", ".x.xxx.", "....xx.", ".....x.", ".......", ".x.xxx.")
}

// P11.2: a Post is before what is behind the Start, and a Complete before what is behind the Wait.
func TestOrderOfGroups(t *testing.T) {
	orderIs(t, of(1, acts(load(0), start(1), load(0), complete, load(0)), acts(load(0), post(0), load(0), wait, load(0))),
		".xxxx....x", "..xxx....x", "...xx....x", "....x....x", "..........",
		"..xxx.xxxx", "..xxx..xxx", "........xx", ".........x", "..........")
}

// P11.2: the number of a Start, and of a Post, counts only those with the other process in their groups.
func TestNumbersOfGroups(t *testing.T) {
	p := of(1, acts(start(1), complete, start(1, 2), complete, load(0)), acts(post(0), wait, post(2), wait, post(0), wait), acts(start(1), complete, post(0), wait))
	for _, x := range []struct {
		x, y place
		want bool
	}{
		{place{1, 0}, place{0, 1}, true}, {place{1, 1}, place{0, 1}, false}, {place{1, 4}, place{0, 2}, false}, {place{1, 4}, place{0, 3}, true}, {place{1, 2}, place{2, 1}, true}, {place{1, 1}, place{2, 1}, true},
		{place{0, 1}, place{1, 2}, true}, {place{0, 2}, place{1, 2}, false}, {place{2, 1}, place{1, 4}, true}, {place{2, 2}, place{0, 3}, true}, {place{2, 2}, place{0, 2}, false}, {place{0, 3}, place{2, 3}, false},
	} {
		if comes(t, p, x.x, x.y) != x.want {
			t.Error(x)
		}
	}
}

// P11.2, P11.6: the order goes on over other processes, as long as a chain through all of them.
func TestChain(t *testing.T) {
	p := of(1, make([][]act, 64)...)
	for rank := 63; rank >= 0; rank-- {
		if rank < 63 {
			p.Acts[rank] = append(p.Acts[rank], start(rank+1), complete)
		}
		if rank > 0 {
			p.Acts[rank] = append(p.Acts[rank], post(rank-1), wait)
		}
	}
	end := len(p.Acts[0])
	p.Acts[0] = append(p.Acts[0], load(0))
	if !comes(t, p, place{63, 0}, place{0, end}) || !comes(t, p, place{40, 1}, place{3, 1}) || comes(t, p, place{3, 0}, place{40, 3}) || comes(t, p, place{63, 1}, place{0, end}) {
		t.Error(p)
	}
}

// P11.2, P11.6: where processes wait for each other in vain, each place of the circle comes before each other one, and before itself; one that waits for nothing is not in it.
func TestCircle(t *testing.T) {
	p := of(1, acts(start(1), complete, post(1), wait), acts(start(0), complete, post(0), wait), acts(fence))
	orderIs(t, p, ".xxx.xxx.", ".xxx.xxx.", ".xxx.xxx.", ".........", ".xxx.xxx.", ".xxx.xxx.", ".xxx.xxx.", ".........", ".........")
}
