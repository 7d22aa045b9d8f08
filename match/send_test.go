package match_test

import (
	"strings"
	"testing"

	"armada/api"
	"armada/match"
)

// P6.3: an eager message is complete at once; its data waits until it is received, and the credit comes back then.
func TestEager(t *testing.T) {
	w := world(t, 2, 4, 2)
	a, b, c := send(t, w, 0, 1, 3, "a"), send(t, w, 0, 1, 3, ""), send(t, w, 0, 1, 3, "c")
	complete(t, w, 0, a, from(1, 3, 1), "")
	complete(t, w, 0, b, from(1, 3, 0), "")
	open(t, w, 0, c) // no credit
	carry(t, w, 0, 1, 3)
	lists(t, w, 1, 0, 3, 0)
	under(t, w, 1, 0, 0)
	complete(t, w, 1, recv(t, w, 1, 0, 3, 4), from(0, 3, 1), "a")
	under(t, w, 1, 0, 1)
	open(t, w, 0, send(t, w, 0, 1, 3, "d")) // the credit is still on its way
	deliver(t, w, 1, 0, 1)
	complete(t, w, 0, send(t, w, 0, 1, 3, "e"), from(1, 3, 1), "") // and is handled now
	open(t, w, 0, send(t, w, 0, 1, 3, "f"))
}

// P6.3: credits are for one destination each; those for the others are as before.
func TestCreditsOfDestinations(t *testing.T) {
	w := world(t, 3, 4, 1)
	for p := range 3 {
		for q := range 3 {
			complete(t, w, p, send(t, w, p, q, 0, "x"), from(q, 0, 1), "")
		}
	}
	carry(t, w, 0, 1, 1)
	complete(t, w, 1, recv(t, w, 1, 0, 0, 1), from(0, 0, 1), "x")
	carry(t, w, 1, 0, 2) // the message and the credit
	open(t, w, 0, send(t, w, 0, 0, 0, "y"))
	open(t, w, 0, send(t, w, 0, 2, 0, "y"))
	complete(t, w, 0, send(t, w, 0, 1, 0, "y"), from(1, 0, 1), "")
	open(t, w, 1, send(t, w, 1, 0, 0, "y"))
}

// P6.3: what is too long, synchronous, in parts, or has no credit is sent by rendezvous: Ask, Clear and Body. No credit is used.
func TestRendezvous(t *testing.T) {
	for _, x := range []struct {
		credits int
		data    string
		sync    bool
	}{{1, "12345", false}, {0, "1", false}, {1, "1", true}, {1, "", true}, {1, strings.Repeat("x", 4096), false}} {
		w := world(t, 2, 4, x.credits)
		s, e := w.Send(0, 1, 7, 8, []byte(x.data), x.sync)
		is(t, "Send", e, api.OK)
		open(t, w, 0, s)
		under(t, w, 0, 1, 1)
		carry(t, w, 0, 1, 1)
		under(t, w, 1, 0, 0)
		r, e := w.Recv(1, 0, 7, 8, 4096)
		is(t, "Recv", e, api.OK)
		open(t, w, 1, r)
		open(t, w, 0, s)
		under(t, w, 1, 0, 1)
		deliver(t, w, 1, 0, 1)
		under(t, w, 0, 1, 0)
		complete(t, w, 0, s, from(1, 8, len(x.data)), "")
		under(t, w, 0, 1, 1)
		open(t, w, 1, r)
		deliver(t, w, 0, 1, 1)
		complete(t, w, 1, r, from(0, 8, len(x.data)), x.data)
		shows(t, w, call{name: "Quiet"}, result{ok: true})
		lists(t, w, 0, 0, 0, 0)
		lists(t, w, 1, 0, 0, 0)
		if x.credits == 1 {
			complete(t, w, 0, send(t, w, 0, 1, 0, "left"), from(1, 0, 4), "")
		}
	}
}

// P6.3: a receive that is there before its message is matched when the message is handled.
func TestReceiveFirst(t *testing.T) {
	w := world(t, 2, 4, 1)
	a, b := recv(t, w, 1, 0, 1, 9), recv(t, w, 1, 0, 2, 9)
	lists(t, w, 1, 2, 0, 2)
	send(t, w, 0, 1, 2, "long message"[:9])
	send(t, w, 0, 1, 1, "abc")
	open(t, w, 1, a)
	deliver(t, w, 0, 1, 2)
	lists(t, w, 1, 2, 0, 2)
	complete(t, w, 1, a, from(0, 1, 3), "abc")
	lists(t, w, 1, 0, 0, 1)
	under(t, w, 1, 0, 2) // Clear and Credit
	carry(t, w, 1, 0, 2)
	carry(t, w, 0, 1, 1)
	complete(t, w, 1, b, from(0, 2, 9), "long mess")
}

// P6.3: a process can send to itself, and its packets are on their way, too.
func TestToItself(t *testing.T) {
	w := world(t, 1, 2, 1)
	a, b := send(t, w, 0, 0, 4, "ab"), send(t, w, 0, 0, 4, "cde")
	r := recv(t, w, 0, 0, 4, 2)
	complete(t, w, 0, a, from(0, 4, 2), "")
	open(t, w, 0, r)
	deliver(t, w, 0, 0, 2)
	complete(t, w, 0, r, from(0, 4, 2), "ab")
	q := recv(t, w, 0, api.AnySource, api.AnyTag, 2)
	under(t, w, 0, 0, 2)
	carry(t, w, 0, 0, 2)
	complete(t, w, 0, b, from(0, 4, 3), "")
	carry(t, w, 0, 0, 1)
	complete(t, w, 0, q, match.Status{Source: 0, Tag: 4, Size: 3, Errno: api.ErrCut}, "cd")
}

// P6.3: a send to no process and a receive from none are complete at once, without packets and credits.
func TestNoProcess(t *testing.T) {
	w := world(t, 2, 4, 1)
	for range 3 {
		s, e := w.Send(0, api.NoRank, 1, 2, []byte("123456"), true)
		is(t, "Send", e, api.OK)
		complete(t, w, 0, s, from(api.NoRank, 2, 6), "")
		r, e := w.Recv(0, api.NoRank, 1, 2, 9)
		is(t, "Recv", e, api.OK)
		lists(t, w, 0, 0, 0, 1)
		shows(t, w, call{name: "Cancel", req: r}, result{})
		complete(t, w, 0, r, nobody(), "")
		gone(t, w, 0, r)
		shows(t, w, call{name: "Quiet"}, result{ok: true})
	}
	complete(t, w, 0, send(t, w, 0, 1, 0, "x"), from(1, 0, 1), "")
	shows(t, w, call{name: "Probe", peer: api.NoRank, tag: 9}, result{ok: true, status: nobody()})
}

// P6.3: an envelope fits a receive if the context is equal, and the source and the tag are equal or any.
func TestFits(t *testing.T) {
	for _, eager := range []int{0, 4} {
		for _, early := range []bool{false, true} {
			for _, x := range []struct {
				src, context, tag int
				fits              bool
			}{
				{0, 5, 6, true}, {0, 5, api.AnyTag, true}, {api.AnySource, 5, 6, true}, {api.AnySource, 5, api.AnyTag, true},
				{1, 5, 6, false}, {2, 5, 6, false}, {0, 4, 6, false}, {0, 6, 6, false}, {0, 5, 5, false}, {0, 5, 7, false}, {2, 5, api.AnyTag, false},
				{0, 4, api.AnyTag, false}, {api.AnySource, 4, 6, false}, {api.AnySource, 5, 7, false}, {api.AnySource, 4, api.AnyTag, false}, {0, 0, 0, false},
			} {
				w := world(t, 3, eager, 1)
				var r int
				var e api.Errno
				if early {
					r, e = w.Recv(2, x.src, x.context, x.tag, 4)
				}
				_, sent := w.Send(0, 2, 5, 6, []byte("abc"), false)
				is(t, "Send", sent, api.OK)
				carry(t, w, 0, 2, 1)
				if !early {
					status := from(0, 6, 3)
					if !x.fits {
						status = match.Status{}
					}
					shows(t, w, call{name: "Probe", p: 2, peer: x.src, context: x.context, tag: x.tag}, result{ok: x.fits, status: status})
					r, e = w.Recv(2, x.src, x.context, x.tag, 4)
				}
				is(t, "Recv", e, api.OK)
				settle(w, 3)
				if x.fits {
					complete(t, w, 2, r, from(0, 6, 3), "abc")
					lists(t, w, 2, 0, 0, 0)
				} else {
					open(t, w, 2, r)
					lists(t, w, 2, 1, 1, 1)
				}
			}
		}
	}
}

// P6.3: a receive keeps as many bytes as its room, from the first one on, and has the error ErrCut if there are more.
func TestRoom(t *testing.T) {
	data := "0123456789"
	for _, eager := range []int{0, 16} {
		for _, early := range []bool{false, true} {
			for size := range 11 {
				for room := range 12 {
					w := world(t, 2, eager, 1)
					var r int
					if early {
						r = recv(t, w, 1, 0, 0, room)
					}
					send(t, w, 0, 1, 0, data[:size])
					carry(t, w, 0, 1, 1)
					if !early {
						r = recv(t, w, 1, 0, 0, room)
					}
					settle(w, 2)
					want := from(0, 0, size)
					if size > room {
						want.Errno = api.ErrCut
					}
					complete(t, w, 1, r, want, data[:min(size, room)])
				}
			}
		}
	}
}

// P6.9: of the messages that wait, the first one that fits is matched; of the receives that wait, the one that was made, or started, first.
func TestFirstOnes(t *testing.T) {
	for _, eager := range []int{0, 4} {
		w := world(t, 3, eager, 9)
		for i, tag := range []int{1, 2, 1, 2} {
			send(t, w, 0, 2, tag, "abcd"[i:i+1])
			send(t, w, 1, 2, tag, "efgh"[i:i+1])
		}
		carry(t, w, 1, 2, 2)
		carry(t, w, 0, 2, 4)
		carry(t, w, 1, 2, 2)
		lists(t, w, 2, 0, 8, 0)
		var got []int
		for _, x := range [][2]int{{api.AnySource, 2}, {0, api.AnyTag}, {api.AnySource, api.AnyTag}, {api.AnySource, 1}, {1, 2}, {0, 2}, {api.AnySource, api.AnyTag}, {api.AnySource, api.AnyTag}} {
			got = append(got, recv(t, w, 2, x[0], x[1], 9))
		}
		settle(w, 3)
		for i, x := range []struct {
			source, tag int
			data        string
		}{{1, 2, "f"}, {0, 1, "a"}, {1, 1, "e"}, {0, 1, "c"}, {1, 2, "h"}, {0, 2, "b"}, {0, 2, "d"}, {1, 1, "g"}} {
			complete(t, w, 2, got[i], from(x.source, x.tag, 1), x.data)
		}

		w = world(t, 3, eager, 9)
		late := persistRecv(t, w, 2, api.AnySource, api.AnyTag, 9)
		first, second, third := recv(t, w, 2, 1, api.AnyTag, 9), recv(t, w, 2, api.AnySource, 7, 9), recv(t, w, 2, api.AnySource, api.AnyTag, 9)
		is(t, "Start", w.Start(2, late, nil), api.OK)
		for _, x := range []string{"a", "b", "c", "d"} {
			send(t, w, 0, 2, 7, x)
		}
		send(t, w, 1, 2, 7, "e")
		carry(t, w, 0, 2, 4)
		carry(t, w, 1, 2, 1)
		settle(w, 3)
		complete(t, w, 2, second, from(0, 7, 1), "a")
		complete(t, w, 2, third, from(0, 7, 1), "b")
		complete(t, w, 2, late, from(0, 7, 1), "c")
		complete(t, w, 2, first, from(1, 7, 1), "e")
		lists(t, w, 2, 0, 1, 1)
	}
}

// P6.8: the packets of a channel arrive in the order in which they were sent, and those in an inbox are handled in that of their arrival.
func TestOrderOfArrival(t *testing.T) {
	w := world(t, 3, 4, 9)
	send(t, w, 0, 2, 1, "a")
	send(t, w, 1, 2, 1, "b")
	send(t, w, 0, 2, 1, "c")
	shows(t, w, call{name: "Deliver", p: 2, peer: 0}, result{})
	deliver(t, w, 1, 2, 1)
	shows(t, w, call{name: "Deliver", p: 1, peer: 2}, result{})
	deliver(t, w, 0, 2, 2)
	under(t, w, 0, 2, 0)
	handle(t, w, 0, 0)
	handle(t, w, 2, 3)
	handle(t, w, 2, 0)
	for _, x := range []struct {
		source int
		data   string
	}{{1, "b"}, {0, "a"}, {0, "c"}} {
		complete(t, w, 2, recv(t, w, 2, api.AnySource, 1, 4), from(x.source, 1, 1), x.data)
	}
	under(t, w, 2, 0, 2)
	under(t, w, 2, 1, 1)
	under(t, w, 2, 2, 0)
}
