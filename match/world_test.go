package match_test

import (
	"strconv"
	"testing"

	"armada/api"
	"armada/match"
)

// P6.1: the limits of a world.
func TestNew(t *testing.T) {
	if match.MaxRequests != 256 || api.MaxRanks != 64 || api.MaxMessage != 4096 || api.MaxTag != 1048576 {
		t.Error("the limits")
	}
	for _, x := range [][3]int{{1, 0, 0}, {64, 4096, 64}, {2, 16, 1}, {1, 4096, 0}, {64, 0, 64}} {
		w := world(t, x[0], x[1], x[2])
		for p := range x[0] {
			lists(t, w, p, 0, 0, 0)
			for q := range x[0] {
				under(t, w, p, q, 0)
			}
		}
		shows(t, w, call{name: "Quiet"}, result{ok: true})
		shows(t, w, call{name: "Lists", p: x[0]}, result{e: api.ErrRank})
	}
	for _, x := range [][3]int{{0, 0, 0}, {65, 0, 0}, {-1, 1, 1}, {highest, 1, 1}, {lowest, 1, 1}, {1, -1, 0}, {1, 4097, 0}, {1, highest, 0}, {1, lowest, 0}, {1, 0, -1}, {1, 0, 65}, {1, 0, highest}, {1, 0, lowest}} {
		if w, e := match.New(x[0], x[1], x[2]); w != nil || e != api.ErrRange {
			t.Error("New", x, w, e)
		}
	}
}

// P6.1: messages with at most as many bytes as the eager limit come eagerly, as long as there are credits for this destination.
func TestLimitsOfAWorld(t *testing.T) {
	for _, limit := range []int{0, 1, 5, 4096} {
		w := world(t, 2, limit, 3)
		complete(t, w, 0, send(t, w, 0, 1, 0, string(make([]byte, limit))), from(1, 0, limit), "")
		if limit < 4096 {
			open(t, w, 0, send(t, w, 0, 1, 0, string(make([]byte, limit+1))))
		}
	}
	for _, credits := range []int{0, 1, 5, 64} {
		w := world(t, 3, 4, credits)
		for p := range 3 {
			for q := range 3 {
				for range credits {
					complete(t, w, p, send(t, w, p, q, 0, "1"), from(q, 0, 1), "")
				}
				open(t, w, p, send(t, w, p, q, 0, "2"))
				under(t, w, p, q, credits+1)
			}
		}
	}
}

// P6.1: a world is quiet if no packet is on its way nor in an inbox, whatever waits.
func TestQuiet(t *testing.T) {
	w := world(t, 3, 4, 1)
	quiet := func(want bool) {
		t.Helper()
		shows(t, w, call{name: "Quiet"}, result{ok: want})
	}
	recv(t, w, 0, 1, 9, 0)
	quiet(true)
	send(t, w, 2, 1, 0, "a")
	quiet(false)
	deliver(t, w, 2, 1, 1)
	quiet(false)
	handle(t, w, 1, 1)
	quiet(true)
	lists(t, w, 1, 0, 1, 0)
	recv(t, w, 1, 2, 0, 1)
	quiet(false) // the credit
	deliver(t, w, 1, 2, 1)
	quiet(false)
	handle(t, w, 2, 1)
	quiet(true)
	send(t, w, 0, api.NoRank, 0, "a")
	recv(t, w, 0, api.NoRank, 0, 1)
	quiet(true)
}

// busy returns a world in which something of each kind is under way.
func busy(t *testing.T) *match.World {
	w := world(t, 3, 2, 2)
	send(t, w, 0, 1, 0, "ab")  // will wait
	send(t, w, 0, 1, 1, "cde") // will be matched
	deliver(t, w, 0, 1, 2)
	recv(t, w, 1, 0, 1, 2)
	recv(t, w, 1, 2, 0, 2)             // waits
	inParts(t, w, 2, true, 1, 5, 2, 1) // its Ask stays on its way
	inParts(t, w, 0, true, 2, 5, 2, 1)
	inParts(t, w, 2, false, 0, 5, 2, 1)
	is(t, "Ready", w.Ready(0, 3, 0, []byte("x")), api.OK)
	carry(t, w, 0, 2, 1)
	carry(t, w, 2, 0, 1)
	deliver(t, w, 0, 2, 1) // one part is there, and one missing
	send(t, w, 0, 0, 3, "s")
	deliver(t, w, 0, 0, 1)
	s := persistSend(t, w, 1, 2, 7)
	is(t, "Start", w.Start(1, s, []byte("p")), api.OK)
	persistRecv(t, w, 2, 1, 7, 1)
	return w
}

// watch returns all that a world shows, without a change, and then what becomes of it when all is handled and more is sent.
func watch(t *testing.T, w *match.World) []result {
	t.Helper()
	var l []result
	look := func() {
		l = append(l, do(w, call{name: "Quiet"}))
		for p := range 3 {
			l = append(l, do(w, call{name: "Lists", p: p}))
			for q := range 3 {
				l = append(l, do(w, call{name: "Under", p: p, peer: q}))
			}
		}
	}
	look()
	settle(w, 3)
	look()
	for p := range 3 {
		for i := range 2 {
			l = append(l, do(w, call{name: "Arrived", p: p, req: 2, i: i}))
		}
		for q := range 3 {
			l = append(l, do(w, call{name: "Probe", p: p, peer: q, tag: api.AnyTag}))
			l = append(l, do(w, call{name: "Recv", p: p, peer: q, tag: api.AnyTag, room: 9}))
			l = append(l, do(w, call{name: "Send", p: p, peer: q, data: []byte{byte(p)}}))
		}
		l = append(l, do(w, call{name: "Ready", p: p, req: 3, i: 1, data: []byte("y")}))
	}
	settle(w, 3)
	look()
	for p := range 3 {
		for req := range 12 {
			l = append(l, do(w, call{name: "Test", p: p, req: req}))
		}
	}
	return l
}

// equal fails unless two lists of results are the same.
func equal(t *testing.T, what string, a, b []result) {
	t.Helper()
	if len(a) != len(b) {
		t.Fatal(what, len(a), len(b))
	}
	for i := range a {
		if !same(a[i], b[i]) {
			t.Errorf("%s: the result %s: %+v and %+v", what, strconv.Itoa(i), a[i], b[i])
		}
	}
}

// P6.1: a copy is in the same state, and independent, as are copies of copies.
func TestCopy(t *testing.T) {
	want := watch(t, busy(t))
	w := busy(t)
	c := w.Copy()
	d := c.Copy()
	equal(t, "the copy", watch(t, c), want)
	equal(t, "the world", watch(t, w), want)
	equal(t, "the copy of the copy", watch(t, d), want)
	w = busy(t)
	c = w.Copy()
	equal(t, "the world before its copy", watch(t, w), want)
	equal(t, "the copy after its world", watch(t, c), want)
}

// P6.1: packets that arrive at a world, and at its copies, do not meet, however many are in the inbox.
func TestCopyOfAnInbox(t *testing.T) {
	for size := range 20 {
		w := world(t, 3, 4, 64)
		for range size {
			send(t, w, 0, 2, 1, "x")
		}
		deliver(t, w, 0, 2, size)
		send(t, w, 0, 2, 2, "a")
		send(t, w, 1, 2, 2, "b")
		c := w.Copy()
		deliver(t, w, 0, 2, 1)
		deliver(t, c, 1, 2, 1)
		handle(t, w, 2, size+1)
		handle(t, c, 2, size+1)
		complete(t, w, 2, recv(t, w, 2, api.AnySource, 2, 4), from(0, 2, 1), "a")
		complete(t, c, 2, recv(t, c, 2, api.AnySource, 2, 4), from(1, 2, 1), "b")
	}
}
