package match_test

import (
	"testing"

	"armada/api"
)

// P6.3, P6.4, P6.5: requests are numbered from 1 on for each process, of whatever kind they are; a number is never given again.
func TestNumbers(t *testing.T) {
	w := world(t, 2, 4, 1)
	for p := range 2 {
		for i := range 3 {
			base := 5 * i
			got := []int{send(t, w, p, api.NoRank, 0, ""), recv(t, w, p, api.NoRank, 0, 0), persistSend(t, w, p, 0, 0), persistRecv(t, w, p, 0, 0, 0), inParts(t, w, p, true, api.NoRank, 0, 1, 1)}
			for k, n := range got {
				if n != base+k+1 {
					t.Error("the request", n, "has to be", base+k+1)
				}
			}
			complete(t, w, p, base+1, from(api.NoRank, 0, 0), "")
			complete(t, w, p, base+2, nobody(), "")
			is(t, "Free", w.Free(p, base+3), api.OK)
			is(t, "Free", w.Free(p, base+4), api.OK)
			complete(t, w, p, base+5, from(api.NoRank, 0, 1), "")
			lists(t, w, p, 0, 0, 0)
		}
	}
}

// P6.4: a persistent request is inactive at first, and again when Test reports that it is complete; it is like any other in between.
func TestPersistent(t *testing.T) {
	for _, eager := range []int{0, 4} {
		w := world(t, 2, eager, 1)
		s, r := persistSend(t, w, 0, 1, 3), persistRecv(t, w, 1, api.AnySource, api.AnyTag, 2)
		resting(t, w, 0, s)
		resting(t, w, 1, r)
		for _, data := range []string{"a", "", "bc", "d"} {
			lists(t, w, 1, 0, 0, 1)
			is(t, "Start", w.Start(1, r, nil), api.OK)
			lists(t, w, 1, 1, 0, 1)
			open(t, w, 1, r)
			is(t, "Start", w.Start(0, s, []byte(data)), api.OK)
			is(t, "Start of one that is active", w.Start(0, s, nil), api.ErrState)
			is(t, "Free of one that is active", w.Free(0, s), api.ErrState)
			settle(w, 2)
			is(t, "Start of one that is complete", w.Start(1, r, nil), api.ErrState)
			is(t, "Free of one that is complete", w.Free(1, r), api.ErrState)
			complete(t, w, 0, s, from(1, 3, len(data)), "")
			complete(t, w, 1, r, from(0, 3, len(data)), data)
			resting(t, w, 0, s)
			resting(t, w, 1, r)
			settle(w, 2)
		}
		is(t, "Free", w.Free(0, s), api.OK)
		is(t, "Free", w.Free(1, r), api.OK)
		is(t, "Free", w.Free(1, r), api.ErrNone)
		gone(t, w, 0, s)
		gone(t, w, 1, r)
	}
}

// P6.4: a persistent send by rendezvous can be started again while its data is still on its way; each receive gets its own.
func TestPersistentAgain(t *testing.T) {
	w := world(t, 2, 0, 0)
	s := persistSend(t, w, 0, 1, 0)
	a, b := recv(t, w, 1, 0, 0, 9), recv(t, w, 1, 0, 0, 9)
	is(t, "Start", w.Start(0, s, []byte("first")), api.OK)
	carry(t, w, 0, 1, 1)
	deliver(t, w, 1, 0, 1)
	complete(t, w, 0, s, from(1, 0, 5), "")
	is(t, "Start", w.Start(0, s, []byte("other")), api.OK)
	under(t, w, 0, 1, 2)
	carry(t, w, 0, 1, 2)
	complete(t, w, 1, a, from(0, 0, 5), "first")
	open(t, w, 1, b)
	carry(t, w, 1, 0, 1)
	carry(t, w, 0, 1, 1)
	complete(t, w, 1, b, from(0, 0, 5), "other")
	complete(t, w, 0, s, from(1, 0, 5), "")
}

// P6.4: a synchronous persistent send is complete only when it was matched; the terms of both kinds are those of Send and Recv.
func TestTermsOfPersistent(t *testing.T) {
	w := world(t, 2, 4, 1)
	s, e := w.Persist(0, true, 1, 8, 9, 0, true)
	is(t, "Persist", e, api.OK)
	r, e := w.Persist(1, false, 0, 8, 9, 1, false)
	is(t, "Persist", e, api.OK)
	is(t, "Start", w.Start(0, s, []byte("ab")), api.OK)
	open(t, w, 0, s)
	send(t, w, 0, 1, 9, "x") // of the context 0
	is(t, "Start", w.Start(1, r, nil), api.OK)
	settle(w, 2)
	complete(t, w, 0, s, from(1, 9, 2), "")
	want := from(0, 9, 2)
	want.Errno = api.ErrCut
	complete(t, w, 1, r, want, "a")
	lists(t, w, 1, 0, 1, 1)
	is(t, "Start with 4096 bytes", w.Start(0, s, make([]byte, 4096)), api.OK)
}

// P6.4: persistent requests of no process are complete as soon as they are started.
func TestPersistentOfNoProcess(t *testing.T) {
	w := world(t, 1, 4, 1)
	s, r := persistSend(t, w, 0, api.NoRank, 3), persistRecv(t, w, 0, api.NoRank, 4, 5)
	for range 2 {
		is(t, "Start", w.Start(0, s, []byte("abcdefg")), api.OK)
		is(t, "Start", w.Start(0, r, nil), api.OK)
		complete(t, w, 0, s, from(api.NoRank, 3, 7), "")
		complete(t, w, 0, r, nobody(), "")
		resting(t, w, 0, s)
		resting(t, w, 0, r)
	}
	shows(t, w, call{name: "Quiet"}, result{ok: true})
}

// P6.6: Test removes a request only when it is complete.
func TestTest(t *testing.T) {
	w := world(t, 2, 4, 0)
	s, r := send(t, w, 0, 1, 5, "abc"), recv(t, w, 1, 0, 5, 3)
	for range 3 {
		open(t, w, 0, s)
		open(t, w, 1, r)
	}
	settle(w, 2)
	lists(t, w, 0, 0, 0, 1)
	lists(t, w, 1, 0, 0, 1)
	complete(t, w, 0, s, from(1, 5, 3), "")
	complete(t, w, 1, r, from(0, 5, 3), "abc")
	gone(t, w, 0, s)
	gone(t, w, 1, r)
	gone(t, w, 1, s+5)
	lists(t, w, 0, 0, 0, 0)
	lists(t, w, 1, 0, 0, 0)
}

// P6.7: Cancel takes a receive that waits from the list; all other requests stay.
func TestCancel(t *testing.T) {
	w := world(t, 2, 4, 1)
	cancel := func(p, req int, want bool) {
		t.Helper()
		shows(t, w, call{name: "Cancel", p: p, req: req}, result{ok: want})
	}
	a, b, c := recv(t, w, 1, 0, 1, 4), recv(t, w, 1, 0, 1, 4), recv(t, w, 1, 0, 1, 4)
	cancel(1, b, true)
	gone(t, w, 1, b)
	shows(t, w, call{name: "Cancel", p: 1, req: b}, result{e: api.ErrNone})
	lists(t, w, 1, 2, 0, 2)
	s := send(t, w, 0, 1, 1, "a")
	l := send(t, w, 0, 1, 1, "long!")
	cancel(0, s, false)
	cancel(0, l, false)
	deliver(t, w, 0, 1, 2)
	cancel(1, a, false) // it is matched first, in the same call
	cancel(1, c, false) // its data is still to come
	complete(t, w, 1, a, from(0, 1, 1), "a")
	settle(w, 2)
	cancel(1, c, false) // it is complete
	want := from(0, 1, 5)
	want.Errno = api.ErrCut
	complete(t, w, 1, c, want, "long")
	complete(t, w, 0, l, from(1, 1, 5), "")

	r := persistRecv(t, w, 1, 0, 1, 4)
	shows(t, w, call{name: "Cancel", p: 1, req: r}, result{e: api.ErrState})
	is(t, "Start", w.Start(1, r, nil), api.OK)
	cancel(1, r, true)
	resting(t, w, 1, r)
	shows(t, w, call{name: "Cancel", p: 1, req: r}, result{e: api.ErrState})
	lists(t, w, 1, 0, 0, 1)
	is(t, "Start", w.Start(1, r, nil), api.OK)
	send(t, w, 0, 1, 1, "b")
	settle(w, 2)
	cancel(1, r, false)
	complete(t, w, 1, r, from(0, 1, 1), "b")

	q := inParts(t, w, 1, false, 0, 1, 2, 2)
	cancel(1, q, true)
	gone(t, w, 1, q)
	n := inParts(t, w, 0, true, 1, 1, 2, 2)
	cancel(0, n, false)
	cancel(0, s, false)
}

// P6.7: a message that was not matched because its receive was cancelled waits for the next one.
func TestAfterCancel(t *testing.T) {
	w := world(t, 2, 4, 1)
	a, b := recv(t, w, 1, 0, 1, 4), recv(t, w, 1, 0, 2, 4)
	shows(t, w, call{name: "Cancel", p: 1, req: a}, result{ok: true})
	send(t, w, 0, 1, 1, "x")
	carry(t, w, 0, 1, 1)
	lists(t, w, 1, 1, 1, 1)
	open(t, w, 1, b)
	complete(t, w, 1, recv(t, w, 1, 0, 1, 4), from(0, 1, 1), "x")
}

// P6.7: Probe shows the first message that waits and fits, and leaves it; it does not show messages in parts.
func TestProbe(t *testing.T) {
	for _, eager := range []int{0, 9} {
		w := world(t, 3, eager, 9)
		probe := func(src, tag int, want result) {
			t.Helper()
			shows(t, w, call{name: "Probe", p: 2, peer: src, tag: tag}, want)
		}
		recv(t, w, 2, 0, 9, 1)
		probe(api.AnySource, api.AnyTag, result{})
		inParts(t, w, 0, true, 2, 1, 1, 2)
		send(t, w, 0, 2, 1, "abcde")
		send(t, w, 0, 2, 2, "ab")
		send(t, w, 1, 2, 2, "")
		probe(api.AnySource, api.AnyTag, result{}) // nothing has arrived
		deliver(t, w, 1, 2, 1)
		probe(api.AnySource, api.AnyTag, result{ok: true, status: from(1, 2, 0)})
		deliver(t, w, 0, 2, 3)
		for range 2 {
			probe(api.AnySource, api.AnyTag, result{ok: true, status: from(1, 2, 0)})
			probe(0, api.AnyTag, result{ok: true, status: from(0, 1, 5)})
			probe(0, 2, result{ok: true, status: from(0, 2, 2)})
			probe(api.AnySource, 1, result{ok: true, status: from(0, 1, 5)})
			probe(api.AnySource, 2, result{ok: true, status: from(1, 2, 0)})
			probe(1, 1, result{})
			probe(2, api.AnyTag, result{})
			probe(api.NoRank, 5, result{ok: true, status: nobody()})
			shows(t, w, call{name: "Probe", p: 2, peer: 0, context: 1, tag: 1}, result{})
			lists(t, w, 2, 1, 4, 1)
		}
		shows(t, w, call{name: "Probe", p: 1, peer: 0, tag: api.AnyTag}, result{})
	}
}
