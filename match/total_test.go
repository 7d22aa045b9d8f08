package match_test

import (
	"testing"

	"armada/api"
	"armada/match"
)

// R3: a world that is nil, or that New did not make, is not valid: ErrNil comes before all other errors, and Copy and Quiet return zero values.
func TestInvalidWorlds(t *testing.T) {
	for _, w := range []*match.World{nil, {}, new(match.World)} {
		for _, name := range methods() {
			for _, c := range []call{{}, {p: -1, peer: -5, context: -1, tag: -9, room: -1, parts: -1, size: -1, req: -1, i: -1, data: make([]byte, 5000)}} {
				c.name = name
				shows(t, w, c, result{e: api.ErrNil})
			}
		}
		shows(t, w, call{name: "Quiet"}, result{})
		if c := w.Copy(); c != nil {
			t.Error("a copy of a world that is not valid:", c)
		}
	}
}

// R3: a nil list of bytes is an empty one.
func TestNilBytes(t *testing.T) {
	for _, data := range [][]byte{nil, {}} {
		w := world(t, 1, 0, 1)
		for _, sync := range []bool{false, true} {
			_, e := w.Send(0, 0, 0, 0, data, sync)
			is(t, "Send", e, api.OK)
		}
		r := persistRecv(t, w, 0, 0, 0, 0)
		is(t, "Start of a receive", w.Start(0, r, data), api.OK)
		s := persistSend(t, w, 0, 0, 0)
		is(t, "Start of a send", w.Start(0, s, data), api.OK)
		p := inParts(t, w, 0, true, 0, 0, 1, 0)
		is(t, "Ready", w.Ready(0, p, 0, data), api.OK)
		settle(w, 1)
		complete(t, w, 0, r, from(0, 0, 0), "")
		lists(t, w, 0, 0, 3, 5)
	}
}

// oddNumbers returns numbers at the edges of all ranges.
func oddNumbers() []int {
	return []int{lowest, lowest + 1, -1 << 32, -3, -2, -1, 0, 1, 2, 3, 64, 65, 4096, 4097, 1 << 20, 1<<20 + 1, 1 << 32, highest - 1, highest}
}

// P0: no call panics or goes on forever, whatever its arguments are; a call with an error returns nothing else.
func TestAllArguments(t *testing.T) {
	for _, n := range oddNumbers() {
		for _, eager := range oddNumbers() {
			for _, credits := range oddNumbers() {
				w, e := match.New(n, eager, credits)
				if (w == nil) != (e != api.OK) {
					t.Fatal(n, eager, credits, e)
				}
			}
		}
	}
	d := dice(31)
	odd := func() int { return pick(&d, oddNumbers()...) }
	w := office(t)
	for k := range 200000 {
		c := call{name: pick(&d, methods()...), p: d.roll(3), peer: d.roll(3), tag: d.roll(2), room: d.roll(5), parts: 1 + d.roll(3), size: d.roll(3), req: d.roll(30), i: d.roll(3), send: d.often(2), sync: d.often(2), data: d.bytes(d.roll(4))}
		switch d.roll(9) {
		case 0:
			c.p = odd()
		case 1:
			c.peer = odd()
		case 2:
			c.context = odd()
		case 3:
			c.tag = odd()
		case 4:
			c.room, c.i = odd(), odd()
		case 5:
			c.parts, c.size = odd(), odd()
		case 6:
			c.req = odd()
		case 7:
			c.data = make([]byte, pick(&d, 4096, 4097))
		}
		r := do(w, c)
		if r.e != api.OK && !same(r, result{e: r.e}) {
			t.Fatalf("%+v: %+v", c, r)
		}
		if k%5000 == 4999 {
			settle(w, 3)
			w = office(t)
		}
	}
}

// P0, P6.10: the largest world, in which each process has as many requests as it can have, is handled to its end.
func TestLargestWorld(t *testing.T) {
	for _, credits := range []int{0, 1, 64} {
		w := world(t, 64, 16, credits)
		for p := range 64 {
			for i := range 128 {
				send(t, w, p, (p+i)%64, i%3, "0123456789abcdefgh"[:i%18])
				recv(t, w, p, (p+128-i)%64, i%3, 16)
			}
			shows(t, w, call{name: "Send", p: p}, result{e: api.ErrMany})
		}
		settle(w, 64)
		for p := range 64 {
			lists(t, w, p, 0, 0, 256)
			for i := range 128 {
				complete(t, w, p, 2*i+1, from((p+i)%64, i%3, i%18), "")
				want := from((p+128-i)%64, i%3, i%18)
				if i%18 > 16 {
					want.Errno = api.ErrCut
				}
				complete(t, w, p, 2*i+2, want, "0123456789abcdefgh"[:min(i%18, 16)])
			}
			lists(t, w, p, 0, 0, 0)
		}
	}
}

// R4: a world keeps no memory of its arguments.
func TestArgumentsAreNotKept(t *testing.T) {
	for _, eager := range []int{0, 8} {
		w := world(t, 1, eager, 9)
		data := []byte("abc")
		_, e := w.Send(0, 0, 0, 1, data, false)
		is(t, "Send", e, api.OK)
		s := persistSend(t, w, 0, 0, 2)
		is(t, "Start", w.Start(0, s, data), api.OK)
		p := inParts(t, w, 0, true, 0, 3, 2, 3)
		is(t, "Ready", w.Ready(0, p, 0, data), api.OK)
		if string(data) != "abc" {
			t.Error("an argument was changed:", data)
		}
		scratch(data, 'x')
		a, b, c := recv(t, w, 0, 0, 1, 9), recv(t, w, 0, 0, 2, 9), inParts(t, w, 0, false, 0, 3, 2, 3)
		settle(w, 1)
		copy(data, "def")
		is(t, "Ready", w.Ready(0, p, 1, data), api.OK)
		scratch(data, 'y')
		settle(w, 1)
		complete(t, w, 0, a, from(0, 1, 3), "abc")
		complete(t, w, 0, b, from(0, 2, 3), "abc")
		complete(t, w, 0, c, from(0, 3, 6), "abcdef")
	}
}

// R4: a result shares no memory with a world, nor with a copy of it, nor with another result.
func TestResultsAreNew(t *testing.T) {
	for _, eager := range []int{0, 8} {
		w := world(t, 1, eager, 9)
		s := send(t, w, 0, 0, 1, "abc")
		r := recv(t, w, 0, 0, 1, 2)
		p, q := inParts(t, w, 0, true, 0, 3, 2, 2), inParts(t, w, 0, false, 0, 3, 2, 2)
		is(t, "Ready", w.Ready(0, p, 0, []byte("de")), api.OK)
		onWay := w.Copy()
		settle(w, 1)
		arrived := w.Copy()
		for range 2 {
			data, ok, e := w.Arrived(0, q, 0)
			if !ok || e != api.OK || string(data) != "de" {
				t.Fatal(data, ok, e)
			}
			scratch(data, 'x')
		}
		_, data, _, _ := w.Test(0, r)
		scratch(data, 'y')
		is(t, "Ready", w.Ready(0, p, 1, []byte("fg")), api.OK)
		settle(w, 1)
		complete(t, w, 0, q, from(0, 3, 4), "defg")
		for _, c := range []*match.World{arrived, onWay} {
			is(t, "Ready", c.Ready(0, p, 1, []byte("hi")), api.OK)
			settle(c, 1)
			complete(t, c, 0, q, from(0, 3, 4), "dehi")
			want := from(0, 1, 3)
			want.Errno = api.ErrCut
			complete(t, c, 0, r, want, "ab")
			complete(t, c, 0, s, from(0, 1, 3), "")
		}
	}
}

// R4, P6.1: what is done to a copy, and to its world, at the same time, does not meet.
func TestCopiesAtTheSameTime(t *testing.T) {
	w := busy(t)
	want := watch(t, w.Copy())
	done := make(chan []result)
	for range 4 {
		c := w.Copy()
		go func() { done <- watch(t, c) }()
	}
	for range 4 {
		equal(t, "a copy beside others", <-done, want)
	}
}
