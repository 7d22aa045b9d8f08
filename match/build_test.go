package match_test

import (
	"bytes"
	"testing"

	"armada/api"
	"armada/match"
)

const (
	highest = int(^uint(0) >> 1)
	lowest  = -highest - 1
)

// call is a call of a method of a world. Each method uses some of the fields.
type call struct {
	name         string
	p, peer      int // for Deliver and Under: from where, and to where
	context, tag int
	room         int
	parts, size  int
	send, sync   bool
	req, i       int
	data         []byte
}

// result has all that a method returns. Those that return one number or truth value have it in n or ok.
type result struct {
	n, messages, requests int
	ok                    bool
	status                match.Status
	data                  []byte
	e                     api.Errno
}

// do calls a method of a world.
func do(w *match.World, c call) (r result) {
	switch c.name {
	case "Send":
		r.n, r.e = w.Send(c.p, c.peer, c.context, c.tag, c.data, c.sync)
	case "Recv":
		r.n, r.e = w.Recv(c.p, c.peer, c.context, c.tag, c.room)
	case "Persist":
		r.n, r.e = w.Persist(c.p, c.send, c.peer, c.context, c.tag, c.room, c.sync)
	case "Start":
		r.e = w.Start(c.p, c.req, c.data)
	case "Free":
		r.e = w.Free(c.p, c.req)
	case "Parts":
		r.n, r.e = w.Parts(c.p, c.send, c.peer, c.context, c.tag, c.parts, c.size)
	case "Ready":
		r.e = w.Ready(c.p, c.req, c.i, c.data)
	case "Arrived":
		r.data, r.ok, r.e = w.Arrived(c.p, c.req, c.i)
	case "Test":
		r.status, r.data, r.ok, r.e = w.Test(c.p, c.req)
	case "Cancel":
		r.ok, r.e = w.Cancel(c.p, c.req)
	case "Probe":
		r.status, r.ok, r.e = w.Probe(c.p, c.peer, c.context, c.tag)
	case "Progress":
		r.n, r.e = w.Progress(c.p)
	case "Deliver":
		r.ok, r.e = w.Deliver(c.p, c.peer)
	case "Under":
		r.n, r.e = w.Under(c.p, c.peer)
	case "Lists":
		r.n, r.messages, r.requests, r.e = w.Lists(c.p)
	case "Quiet":
		r.ok = w.Quiet()
	default:
		panic(c.name)
	}
	return r
}

// handling lists the methods that handle the packets in an inbox.
func handling() []string {
	return []string{"Send", "Recv", "Persist", "Start", "Free", "Parts", "Ready", "Arrived", "Test", "Cancel", "Probe", "Progress"}
}

// methods lists all methods but Quiet and Copy.
func methods() []string { return append(handling(), "Deliver", "Under", "Lists") }

// same reports whether two results are the same. An empty list is a nil one.
func same(a, b result) bool {
	equal := bytes.Equal(a.data, b.data)
	return equal && a.n == b.n && a.messages == b.messages && a.requests == b.requests && a.ok == b.ok && a.status == b.status && a.e == b.e
}

// shows fails unless a call has a result.
func shows(t *testing.T, w *match.World, c call, want result) {
	t.Helper()
	if got := do(w, c); !same(got, want) {
		t.Errorf("%+v: %+v, not %+v", c, got, want)
	}
}

// world returns a world, and fails if there is an error.
func world(t *testing.T, n, eager, credits int) *match.World {
	t.Helper()
	w, e := match.New(n, eager, credits)
	if e != api.OK || w == nil {
		t.Fatal("New", n, eager, credits, w, e)
	}
	return w
}

// number returns the number of a request that a call makes, and fails if there is an error.
func number(t *testing.T, n int, e api.Errno) int {
	t.Helper()
	if e != api.OK || n < 1 {
		t.Fatal("the request", n, "has the error", e)
	}
	return n
}

// send sends a message with the context 0.
func send(t *testing.T, w *match.World, p, dst, tag int, data string) int {
	t.Helper()
	n, e := w.Send(p, dst, 0, tag, []byte(data), false)
	return number(t, n, e)
}

// recv receives a message with the context 0.
func recv(t *testing.T, w *match.World, p, src, tag, room int) int {
	t.Helper()
	n, e := w.Recv(p, src, 0, tag, room)
	return number(t, n, e)
}

// persistSend makes a persistent send with the context 0.
func persistSend(t *testing.T, w *match.World, p, dst, tag int) int {
	t.Helper()
	n, e := w.Persist(p, true, dst, 0, tag, 0, false)
	return number(t, n, e)
}

// persistRecv makes a persistent receive with the context 0.
func persistRecv(t *testing.T, w *match.World, p, src, tag, room int) int {
	t.Helper()
	n, e := w.Persist(p, false, src, 0, tag, room, false)
	return number(t, n, e)
}

// inParts makes a send or a receive in parts with the context 0.
func inParts(t *testing.T, w *match.World, p int, send bool, peer, tag, parts, size int) int {
	t.Helper()
	n, e := w.Parts(p, send, peer, 0, tag, parts, size)
	return number(t, n, e)
}

// is fails unless a call returned an error.
func is(t *testing.T, what string, got, want api.Errno) {
	t.Helper()
	if got != want {
		t.Errorf("%s: %v, not %v", what, got, want)
	}
}

// complete fails unless a request is complete, with a status and data.
func complete(t *testing.T, w *match.World, p, req int, want match.Status, data string) {
	t.Helper()
	shows(t, w, call{name: "Test", p: p, req: req}, result{ok: true, status: want, data: []byte(data)})
}

// open fails unless a request is there and not complete.
func open(t *testing.T, w *match.World, p, req int) {
	t.Helper()
	shows(t, w, call{name: "Test", p: p, req: req}, result{})
}

// gone fails unless there is no such request.
func gone(t *testing.T, w *match.World, p, req int) {
	t.Helper()
	shows(t, w, call{name: "Test", p: p, req: req}, result{e: api.ErrNone})
}

// resting fails unless a request is a persistent one that is not active.
func resting(t *testing.T, w *match.World, p, req int) {
	t.Helper()
	shows(t, w, call{name: "Test", p: p, req: req}, result{e: api.ErrState})
}

// under fails unless some packets are on their way.
func under(t *testing.T, w *match.World, src, dst, want int) {
	t.Helper()
	shows(t, w, call{name: "Under", p: src, peer: dst}, result{n: want})
}

// deliver lets some packets arrive, and fails if there are less.
func deliver(t *testing.T, w *match.World, src, dst, count int) {
	t.Helper()
	for range count {
		shows(t, w, call{name: "Deliver", p: src, peer: dst}, result{ok: true})
	}
}

// handle fails unless a process handles some packets.
func handle(t *testing.T, w *match.World, p, want int) {
	t.Helper()
	shows(t, w, call{name: "Progress", p: p}, result{n: want})
}

// carry lets some packets arrive, and handles them.
func carry(t *testing.T, w *match.World, src, dst, count int) {
	t.Helper()
	deliver(t, w, src, dst, count)
	handle(t, w, dst, count)
}

// lists fails unless the lists of a process have some lengths.
func lists(t *testing.T, w *match.World, p, receives, messages, requests int) {
	t.Helper()
	shows(t, w, call{name: "Lists", p: p}, result{n: receives, messages: messages, requests: requests})
}

// settle delivers and handles all packets of a world of n processes.
func settle(w *match.World, n int) {
	for !w.Quiet() {
		for src := range n {
			for dst := range n {
				w.Deliver(src, dst)
				w.Progress(dst)
			}
		}
	}
}

// from returns the status of a receive that was not cut, or of a send.
func from(peer, tag, size int) match.Status {
	return match.Status{Source: peer, Tag: tag, Size: size}
}

// nobody returns the status of a receive from no process.
func nobody() match.Status { return match.Status{Source: api.NoRank, Tag: api.AnyTag} }

// scratch overwrites a result.
func scratch[T any](l []T, x T) {
	l = l[:cap(l)]
	for i := range l {
		l[i] = x
	}
}

// dice yields the same numbers in each run of the tests.
type dice uint64

// roll returns a number from 0 to n - 1.
func (d *dice) roll(n int) int {
	*d = *d*6364136223846793005 + 1442695040888963407
	return int(uint64(*d)>>33) % n
}

// bytes returns n bytes.
func (d *dice) bytes(n int) []byte {
	l := make([]byte, n)
	for i := range l {
		l[i] = byte(d.roll(256))
	}
	return l
}

// often reports true once in n times.
func (d *dice) often(n int) bool { return d.roll(n) == 0 }

// pick returns one of some elements.
func pick[T any](d *dice, l ...T) T { return l[d.roll(len(l))] }

// shuffled returns the numbers from 0 to n - 1 in some order.
func (d *dice) shuffled(n int) []int {
	l := make([]int, n)
	for i := range l {
		k := d.roll(i + 1)
		l[i], l[k] = l[k], i
	}
	return l
}
