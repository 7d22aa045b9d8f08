package match_test

import (
	"testing"

	"armada/api"
	"armada/match"
)

// arrived fails unless the parts of a receive are those in a list; one that is missing is "-".
func arrived(t *testing.T, w *match.World, p, req int, want ...string) {
	t.Helper()
	for i, s := range want {
		data, ok, e := w.Arrived(p, req, i)
		if e != api.OK || ok != (s != "-") || ok && string(data) != s || !ok && len(data) > 0 {
			t.Errorf("the part %d of %d: %q %v %v, not %q", i, req, data, ok, e, s)
		}
	}
}

// P6.5: parts that are given before the message is cleared are sent then, in ascending order; each further one at once. The data is the parts one after the other.
func TestParts(t *testing.T) {
	w := world(t, 2, 4096, 9)
	s, r := inParts(t, w, 0, true, 1, 7, 4, 2), inParts(t, w, 1, false, 0, 7, 4, 2)
	ready := func(i int, data string, want api.Errno) {
		t.Helper()
		is(t, "Ready", w.Ready(0, s, i, []byte(data)), want)
	}
	under(t, w, 0, 1, 1)
	ready(3, "gh", api.OK)
	ready(1, "cd", api.OK)
	under(t, w, 0, 1, 1)
	ready(1, "xx", api.ErrHave)
	carry(t, w, 0, 1, 1)
	under(t, w, 1, 0, 1)
	lists(t, w, 1, 0, 0, 1)
	arrived(t, w, 1, r, "-", "-", "-", "-")
	carry(t, w, 1, 0, 1)
	under(t, w, 0, 1, 2)
	open(t, w, 0, s)
	deliver(t, w, 0, 1, 1)
	arrived(t, w, 1, r, "-", "cd", "-", "-")
	deliver(t, w, 0, 1, 1)
	arrived(t, w, 1, r, "-", "cd", "-", "gh")
	ready(2, "ef", api.OK)
	under(t, w, 0, 1, 1)
	open(t, w, 0, s)
	ready(0, "ab", api.OK)
	ready(0, "ab", api.ErrHave)
	under(t, w, 0, 1, 2)
	deliver(t, w, 0, 1, 1)
	arrived(t, w, 1, r, "-", "cd", "ef", "gh")
	open(t, w, 1, r)
	complete(t, w, 0, s, from(1, 7, 8), "")
	gone(t, w, 0, s)
	is(t, "Ready of a request that is gone", w.Ready(0, s, 0, []byte("ab")), api.ErrNone)
	deliver(t, w, 0, 1, 1)
	arrived(t, w, 1, r, "ab", "cd", "ef", "gh")
	complete(t, w, 1, r, from(0, 7, 8), "abcdefgh")
	gone(t, w, 1, r)
	shows(t, w, call{name: "Quiet"}, result{ok: true})
}

// P6.5: a Clear that is in the inbox is handled before the part becomes ready that the same call gives.
func TestClearBeforeReady(t *testing.T) {
	w := world(t, 2, 0, 0)
	s, r := inParts(t, w, 0, true, 1, 0, 3, 1), inParts(t, w, 1, false, 0, 0, 3, 1)
	is(t, "Ready", w.Ready(0, s, 2, []byte("c")), api.OK)
	carry(t, w, 0, 1, 1)
	deliver(t, w, 1, 0, 1)
	is(t, "Ready", w.Ready(0, s, 0, []byte("a")), api.OK)
	deliver(t, w, 0, 1, 1)
	arrived(t, w, 1, r, "-", "-", "c")
	deliver(t, w, 0, 1, 1)
	arrived(t, w, 1, r, "a", "-", "c")
	open(t, w, 0, s)
	is(t, "Ready", w.Ready(0, s, 1, []byte("b")), api.OK)
	complete(t, w, 0, s, from(1, 0, 3), "")
	settle(w, 2)
	complete(t, w, 1, r, from(0, 0, 3), "abc")
}

// P6.5: a send in parts of which all are ready is complete when it is cleared.
func TestAllReady(t *testing.T) {
	w := world(t, 2, 0, 0)
	s := inParts(t, w, 0, true, 1, 0, 2, 1)
	is(t, "Ready", w.Ready(0, s, 0, []byte("a")), api.OK)
	is(t, "Ready", w.Ready(0, s, 1, []byte("b")), api.OK)
	carry(t, w, 0, 1, 1)
	lists(t, w, 1, 0, 1, 0)
	open(t, w, 0, s)
	r := inParts(t, w, 1, false, 0, 0, 2, 1)
	lists(t, w, 1, 0, 0, 1)
	open(t, w, 0, s)
	deliver(t, w, 1, 0, 1)
	complete(t, w, 0, s, from(1, 0, 2), "")
	under(t, w, 0, 1, 2)
	settle(w, 2)
	complete(t, w, 1, r, from(0, 0, 2), "ab")
}

// P6.5: parts without bytes are parts, too.
func TestEmptyParts(t *testing.T) {
	w := world(t, 2, 0, 0)
	s, r := inParts(t, w, 0, true, 1, 0, 2, 0), inParts(t, w, 1, false, 0, 0, 2, 0)
	settle(w, 2)
	is(t, "Ready", w.Ready(0, s, 1, nil), api.OK)
	is(t, "Ready", w.Ready(0, s, 0, []byte("a")), api.ErrShape)
	is(t, "Ready", w.Ready(0, s, 1, nil), api.ErrHave)
	settle(w, 2)
	arrived(t, w, 1, r, "-", "")
	open(t, w, 0, s)
	open(t, w, 1, r)
	is(t, "Ready", w.Ready(0, s, 0, []byte{}), api.OK)
	settle(w, 2)
	complete(t, w, 0, s, from(1, 0, 0), "")
	complete(t, w, 1, r, from(0, 0, 0), "")
}

// P6.5: a message in parts fits a receive only if the number and the size of the parts are equal; others are left for others.
func TestPartsFit(t *testing.T) {
	for _, early := range []bool{false, true} {
		for _, x := range []struct {
			parts, size int
			fits        bool
		}{{2, 6, true}, {3, 4, false}, {4, 3, false}, {2, 5, false}, {2, 7, false}, {1, 12, false}, {2, 0, false}, {12, 1, false}} {
			w := world(t, 2, 0, 0)
			var r int
			if early {
				r = inParts(t, w, 1, false, 0, 3, x.parts, x.size)
			}
			inParts(t, w, 0, true, 1, 3, 2, 6)
			carry(t, w, 0, 1, 1)
			if !early {
				r = inParts(t, w, 1, false, 0, 3, x.parts, x.size)
			}
			waits := 1
			if x.fits {
				waits = 0
			}
			lists(t, w, 1, waits, waits, 1)
			under(t, w, 1, 0, 1-waits)
			open(t, w, 1, r)
		}
		w := world(t, 2, 0, 0)
		inParts(t, w, 0, true, 1, 3, 1, 1)
		send(t, w, 0, 1, 3, "a")
		carry(t, w, 0, 1, 2)
		lists(t, w, 1, 0, 2, 0)
		plain, whole := recv(t, w, 1, api.AnySource, api.AnyTag, 4096), inParts(t, w, 1, false, 0, 3, 1, 1)
		settle(w, 2)
		complete(t, w, 1, plain, from(0, 3, 1), "a")
		open(t, w, 1, whole)
		arrived(t, w, 1, whole, "-")
		is(t, "Ready", w.Ready(0, 1, 0, []byte("b")), api.OK)
		settle(w, 2)
		complete(t, w, 1, whole, from(0, 3, 1), "b")
	}
}

// P6.5: the context, the source and the tag of messages in parts have to be equal, too.
func TestPartsOfOthers(t *testing.T) {
	w := world(t, 3, 0, 0)
	make := func(p int, send bool, peer, context, tag int) int {
		t.Helper()
		n, e := w.Parts(p, send, peer, context, tag, 1, 1)
		return number(t, n, e)
	}
	make(0, true, 2, 5, 6)
	carry(t, w, 0, 2, 1)
	make(2, false, 1, 5, 6)
	make(2, false, 0, 4, 6)
	make(2, false, 0, 5, 7)
	lists(t, w, 2, 3, 1, 3)
	make(2, false, 0, 5, 6)
	lists(t, w, 2, 3, 0, 4)
	under(t, w, 2, 0, 1)
}

// P6.5: two messages in parts of one sender come at the same time, each to its receive.
func TestTwoInParts(t *testing.T) {
	w := world(t, 2, 0, 0)
	a, b := inParts(t, w, 0, true, 1, 1, 2, 1), inParts(t, w, 0, true, 1, 2, 2, 1)
	y, x := inParts(t, w, 1, false, 0, 2, 2, 1), inParts(t, w, 1, false, 0, 1, 2, 1)
	settle(w, 2)
	for _, g := range []struct {
		req, i int
		data   string
	}{{a, 1, "b"}, {b, 1, "d"}, {b, 0, "c"}, {a, 0, "a"}} {
		is(t, "Ready", w.Ready(0, g.req, g.i, []byte(g.data)), api.OK)
	}
	deliver(t, w, 0, 1, 3)
	arrived(t, w, 1, x, "-", "b")
	complete(t, w, 1, y, from(0, 2, 2), "cd")
	deliver(t, w, 0, 1, 1)
	complete(t, w, 1, x, from(0, 1, 2), "ab")
}

// P6.5: to no process parts can be given, and the send is complete before; a receive from none has no parts.
func TestPartsOfNoProcess(t *testing.T) {
	w := world(t, 1, 4, 1)
	s, r := inParts(t, w, 0, true, api.NoRank, 3, 2, 3), inParts(t, w, 0, false, api.NoRank, 4, 2, 3)
	lists(t, w, 0, 0, 0, 2)
	is(t, "Ready", w.Ready(0, s, 1, []byte("ab")), api.ErrShape)
	is(t, "Ready", w.Ready(0, s, 2, []byte("abc")), api.ErrRange)
	is(t, "Ready", w.Ready(0, s, 1, []byte("abc")), api.OK)
	is(t, "Ready", w.Ready(0, s, 1, []byte("abc")), api.ErrHave)
	shows(t, w, call{name: "Arrived", req: s}, result{e: api.ErrState})
	arrived(t, w, 0, r, "-", "-")
	shows(t, w, call{name: "Arrived", req: r, i: 2}, result{e: api.ErrRange})
	shows(t, w, call{name: "Quiet"}, result{ok: true})
	complete(t, w, 0, s, from(api.NoRank, 3, 6), "")
	complete(t, w, 0, r, nobody(), "")
	lists(t, w, 0, 0, 0, 0)
	s = inParts(t, w, 0, true, api.NoRank, 3, 1, 0)
	is(t, "Ready", w.Ready(0, s, 0, nil), api.OK)
	complete(t, w, 0, s, from(api.NoRank, 3, 0), "")
}

// P6.5: the largest messages in parts.
func TestLargestParts(t *testing.T) {
	for _, x := range [][2]int{{1, 4096}, {64, 64}, {2, 2048}, {63, 65}} {
		w := world(t, 2, 4096, 64)
		s, r := inParts(t, w, 0, true, 1, 0, x[0], x[1]), inParts(t, w, 1, false, 0, 0, x[0], x[1])
		d := dice(x[0])
		all := d.bytes(x[0] * x[1])
		for k, i := range d.shuffled(x[0]) {
			is(t, "Ready", w.Ready(0, s, i, all[i*x[1]:(i+1)*x[1]]), api.OK)
			if k == x[0]/2 {
				settle(w, 2)
			}
		}
		settle(w, 2)
		for i := range x[0] {
			shows(t, w, call{name: "Arrived", p: 1, req: r, i: i}, result{ok: true, data: all[i*x[1] : (i+1)*x[1]]})
		}
		complete(t, w, 0, s, from(1, 0, len(all)), "")
		complete(t, w, 1, r, from(0, 0, len(all)), string(all))
	}
}
