package match_test

import (
	"testing"

	"armada/api"
	"armada/match"
)

// P6.1 to P6.8: the calls of the chapter's table of examples have its results, one after the other.
func TestExamples(t *testing.T) {
	w := world(t, 2, 4, 1)
	if n := send(t, w, 0, 1, 5, "abc"); n != 1 {
		t.Error("the first request is", n)
	}
	complete(t, w, 0, 1, from(1, 5, 3), "")

	if n := send(t, w, 0, 1, 5, "de"); n != 2 {
		t.Error("the second request is", n)
	}
	open(t, w, 0, 2)
	under(t, w, 0, 1, 2)

	deliver(t, w, 0, 1, 2)
	shows(t, w, call{name: "Probe", p: 1, peer: 0, tag: api.AnyTag}, result{ok: true, status: from(0, 5, 3)})
	if n := recv(t, w, 1, api.AnySource, 5, 4); n != 1 {
		t.Error("the first receive is", n)
	}
	complete(t, w, 1, 1, from(0, 5, 3), "abc")

	if n := recv(t, w, 1, 0, 5, 1); n != 2 {
		t.Error("the second receive is", n)
	}
	open(t, w, 1, 2)
	deliver(t, w, 1, 0, 2)
	complete(t, w, 0, 2, from(1, 5, 2), "")

	deliver(t, w, 0, 1, 1)
	complete(t, w, 1, 2, match.Status{Source: 0, Tag: 5, Size: 2, Errno: api.ErrCut}, "d")
	shows(t, w, call{name: "Quiet"}, result{ok: true})

	if n := recv(t, w, 1, 0, 6, 4); n != 3 {
		t.Error("the third receive is", n)
	}
	shows(t, w, call{name: "Cancel", p: 1, req: 3}, result{ok: true})
	gone(t, w, 1, 3)

	if n := inParts(t, w, 0, true, 1, 7, 2, 3); n != 3 {
		t.Error("the send in parts is", n)
	}
	if n := inParts(t, w, 1, false, 0, 7, 2, 3); n != 4 {
		t.Error("the receive in parts is", n)
	}
	deliver(t, w, 0, 1, 1)
	handle(t, w, 1, 1)
	deliver(t, w, 1, 0, 1)

	shows(t, w, call{name: "Ready", p: 0, req: 3, i: 1, data: []byte("xyz")}, result{})
	deliver(t, w, 0, 1, 1)
	shows(t, w, call{name: "Arrived", p: 1, req: 4, i: 1}, result{ok: true, data: []byte("xyz")})
	shows(t, w, call{name: "Arrived", p: 1, req: 4, i: 0}, result{})
	shows(t, w, call{name: "Ready", p: 0, req: 3, i: 1, data: []byte("xyz")}, result{e: api.ErrHave})

	if n := send(t, w, 0, api.NoRank, 0, "123456789"); n != 4 {
		t.Error("the send to no process is", n)
	}
	complete(t, w, 0, 4, from(api.NoRank, 0, 9), "")

	shows(t, w, call{name: "Send", p: 0, peer: 2}, result{e: api.ErrRank})
	shows(t, w, call{name: "Send", p: 0, peer: 1, tag: -1}, result{e: api.ErrTag})
	shows(t, w, call{name: "Recv", p: 0, peer: 5}, result{e: api.ErrRank})
	if w, e := match.New(0, 0, 0); w != nil || e != api.ErrRange {
		t.Error(w, e)
	}
}

// P6.3: the example of DOC.md: with one credit the second of two messages is not complete before it is received.
func TestExampleOfCredits(t *testing.T) {
	w := world(t, 2, 4, 1)
	first, second := send(t, w, 0, 1, 5, "one"), send(t, w, 0, 1, 5, "two")
	complete(t, w, 0, first, from(1, 5, 3), "")
	carry(t, w, 0, 1, 2)
	open(t, w, 0, second)
	one, two := recv(t, w, 1, 0, 5, 3), recv(t, w, 1, 0, 5, 3)
	open(t, w, 0, second)
	carry(t, w, 1, 0, 2)
	complete(t, w, 0, second, from(1, 5, 3), "")
	carry(t, w, 0, 1, 1)
	complete(t, w, 1, one, from(0, 5, 3), "one")
	complete(t, w, 1, two, from(0, 5, 3), "two")
}
