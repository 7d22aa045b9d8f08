package match_test

import (
	"slices"
	"testing"

	"armada/api"
	"armada/match"
)

// letter is a message that a test sent, and what it knows of it.
type letter struct {
	from, context, tag int
	size               int
	sync               bool
	req                int
	got                int // the receive that got it, or -1
}

// hope is a receive that a test made.
type hope struct {
	src, context, tag, room int
	req                     int
	when                    int // the event in which it was matched, or -1
}

func (h hope) fits(l letter) bool {
	return h.context == l.context && (h.src == api.AnySource || h.src == l.from) && (h.tag == api.AnyTag || h.tag == l.tag)
}

// post is a world in which all processes send to the last one, with all letters and hopes.
type post struct {
	w       *match.World
	n       int
	letters []letter
	hopes   []hope
	events  int
}

// contents returns the data of a letter, which names it.
func contents(id, size int) []byte {
	return append([]byte{byte(id), byte(id >> 8)}, make([]byte, size-2)...)
}

// event does something at random, so that at most one message is matched.
func (x *post) event(t *testing.T, d *dice) {
	last := x.n - 1
	x.events++
	switch d.roll(3) {
	case 0:
		l := letter{from: d.roll(x.n), context: d.roll(2), tag: d.roll(2), size: 2 + d.roll(6), sync: d.often(4), got: -1}
		req, e := x.w.Send(l.from, last, l.context, l.tag, contents(len(x.letters), l.size), l.sync)
		l.req = number(t, req, e)
		x.letters = append(x.letters, l)
	case 1:
		h := hope{src: pick(d, d.roll(x.n), api.AnySource), context: d.roll(2), tag: pick(d, d.roll(2), api.AnyTag), room: 2 + d.roll(6), when: -1}
		req, e := x.w.Recv(last, h.src, h.context, h.tag, h.room)
		h.req = number(t, req, e)
		x.hopes = append(x.hopes, h)
	case 2:
		src, dst := d.roll(x.n), d.roll(x.n)
		x.w.Deliver(src, dst)
		x.w.Progress(dst)
	}
	x.note()
}

// note finds out which receives were matched in this event: they cannot be cancelled any more.
func (x *post) note() {
	c := x.w.Copy()
	for i, h := range x.hopes {
		if h.when < 0 {
			if waits, _ := c.Cancel(x.n-1, h.req); !waits {
				x.hopes[i].when = x.events
			}
		}
	}
}

// finish delivers everything, one packet after the other, and tests all receives.
func (x *post) finish(t *testing.T) {
	for !x.w.Quiet() {
		for src := range x.n {
			for dst := range x.n {
				x.events++
				x.w.Deliver(src, dst)
				x.w.Progress(dst)
				x.note()
			}
		}
	}
	for i, h := range x.hopes {
		s, data, ok, e := x.w.Test(x.n-1, h.req)
		if e != api.OK || ok != (h.when >= 0) {
			t.Fatal("the receive", h, ok, e)
		}
		if ok {
			x.got(t, i, s, data)
		}
	}
}

// got fails unless a receive got all that it has to get of a letter that nobody got before.
func (x *post) got(t *testing.T, i int, s match.Status, data []byte) {
	h := x.hopes[i]
	id := int(data[0]) + int(data[1])<<8
	l := &x.letters[id]
	want := match.Status{Source: l.from, Tag: l.tag, Size: l.size}
	if l.size > h.room {
		want.Errno = api.ErrCut
	}
	if l.got >= 0 || !h.fits(*l) || s != want || !slices.Equal(data, contents(id, l.size)[:min(l.size, h.room)]) {
		t.Fatal("the receive", h, "got", *l, "as", s, data)
	}
	l.got = i
}

// posts runs some worlds to their ends.
func posts(t *testing.T, run func(x *post)) {
	for seed := range 150 {
		d := dice(seed)
		n := 1 + d.roll(4)
		x := &post{w: world(t, n, d.roll(9), d.roll(4)), n: n}
		for range 120 {
			x.event(t, &d)
		}
		x.finish(t)
		run(x)
	}
}

// P6.9, G1: if the earlier one of two messages of a process fits a receive that got the later one, it was matched before; and of the receives that a message fits, it went to the one made first of those that waited.
func TestOrder(t *testing.T) {
	met := 0
	posts(t, func(x *post) {
		for b, late := range x.letters {
			if late.got < 0 {
				continue
			}
			h := x.hopes[late.got]
			for _, early := range x.letters[:b] {
				if early.from == late.from && early.context == late.context && h.fits(early) {
					met++
					if early.got < 0 || x.hopes[early.got].when >= h.when {
						t.Fatal(late, "overtook", early)
					}
				}
			}
			for _, other := range x.hopes[:late.got] {
				if other.fits(late) && (other.when < 0 || other.when >= h.when) {
					t.Fatal(late, "was matched with", h, "before", other)
				}
			}
		}
	})
	if met < 1000 {
		t.Error("only", met, "pairs")
	}
}

// P6.10: if everything is delivered and handled, each message was matched with one receive, or waits, and fits no receive that waits; a send is complete when its message was taken over, and if it is synchronous, only when it was matched.
func TestNothingIsLost(t *testing.T) {
	posts(t, func(x *post) {
		last, matched := x.n-1, 0
		for _, l := range x.letters {
			if l.got >= 0 {
				matched++
			} else {
				for _, h := range x.hopes {
					if h.when < 0 && h.fits(l) {
						t.Fatal(h, "and", l, "wait")
					}
				}
			}
			s, data, ok, e := x.w.Test(l.from, l.req)
			if e != api.OK || l.got >= 0 && !ok || l.got < 0 && l.sync && ok || ok && s != from(last, l.tag, l.size) || len(data) > 0 {
				t.Fatal(l, s, data, ok, e)
			}
		}
		lists(t, x.w, last, len(x.hopes)-matched, len(x.letters)-matched, len(x.hopes)-matched+unfinished(x))
	})
}

// unfinished returns how many sends of the last process are not complete.
func unfinished(x *post) int {
	n := 0
	for _, l := range x.letters {
		if _, _, ok, e := x.w.Test(x.n-1, l.req); l.from == x.n-1 && e == api.OK && !ok {
			n++
		}
	}
	return n
}

// program returns the calls of a process of n, without AnySource: it makes requests, and starts them or gives parts of them later.
func (d *dice) program(p, n int) []call {
	var l, later []call
	for made := 0; made < 30; {
		if len(later) > 0 && d.often(2) {
			i := d.roll(len(later))
			l = append(l, later[i])
			later = slices.Delete(later, i, i+1)
			continue
		}
		made++
		c := call{name: "Recv", p: p, peer: d.roll(n), context: d.roll(2), tag: pick(d, d.roll(2), api.AnyTag), room: d.roll(9)}
		if d.often(20) {
			c.peer = api.NoRank
		}
		switch d.roll(6) {
		case 0, 1, 2:
			c.name, c.tag, c.data, c.sync = "Send", d.roll(2), d.bytes(d.roll(7)), d.often(4)
		case 3:
			c.name, c.send, c.tag, c.parts, c.size = "Parts", d.often(2), d.roll(2), 2, 2
			if c.send {
				later = append(later, call{name: "Ready", p: p, req: made, data: d.bytes(2)}, call{name: "Ready", p: p, req: made, i: 1, data: d.bytes(2)})
			}
		case 4:
			c.name, c.send = "Persist", d.often(2)
			start := call{name: "Start", p: p, req: made}
			if c.send {
				c.tag, c.room, start.data = d.roll(2), 0, d.bytes(d.roll(7))
			}
			later = append(later, start)
		}
		l = append(l, c)
	}
	return append(l, later...)
}

// perform does the calls of all processes in some order, with deliveries in between, and returns what all receives got.
func perform(t *testing.T, d *dice, w *match.World, programs [][]call) []result {
	t.Helper()
	n := len(programs)
	at := make([]int, n)
	left := 0
	for _, l := range programs {
		left += len(l)
	}
	eager := 1 + d.roll(5)
	for left > 0 {
		p := d.roll(n)
		switch {
		case d.roll(6) < eager && at[p] < len(programs[p]):
			c := programs[p][at[p]]
			if r := do(w, c); r.e != api.OK {
				t.Fatalf("%+v: %v", c, r.e)
			}
			at[p]++
			left--
		case d.often(3):
			w.Progress(p)
		default:
			w.Deliver(d.roll(n), p)
		}
	}
	settle(w, n)
	var l []result
	for p, program := range programs {
		req := 0
		for _, c := range program {
			if c.name == "Start" || c.name == "Ready" {
				continue
			}
			req++
			if c.name == "Recv" || !c.send && c.name != "Send" {
				l = append(l, do(w, call{name: "Test", p: p, req: req}))
			}
		}
	}
	return l
}

// P6.11: without AnySource, what all receives get does not depend on the order of deliveries and calls, nor on the eager limit and the credits.
func TestSchedules(t *testing.T) {
	got, open := 0, 0
	for seed := range 60 {
		d := dice(seed)
		n := 1 + d.roll(4)
		programs := make([][]call, n)
		for p := range programs {
			programs[p] = d.program(p, n)
		}
		var first []result
		for k := range 12 {
			w := world(t, n, pick(&d, 0, 3, 4096), pick(&d, 0, 1, 2, 64))
			l := perform(t, &d, w, programs)
			if k == 0 {
				first = l
			}
			equal(t, "another schedule", l, first)
		}
		for _, r := range first {
			if r.ok && r.status.Source >= 0 {
				got++
			} else if !r.ok {
				open++
			}
		}
	}
	if got < 200 || open < 200 {
		t.Error("only", got, "receives are complete, and", open, "not")
	}
}

// spare returns how many messages can be sent eagerly; it changes nothing.
func spare(t *testing.T, w *match.World, p, q int) int {
	t.Helper()
	w = w.Copy()
	for n := 0; ; n++ {
		if _, _, ok, _ := w.Test(p, send(t, w, p, q, 0, "x")); !ok {
			return n
		}
	}
}

// P6.12: the eager messages that were not matched, the Credits that were not handled, and the credits are together as many as at first. Messages go to later processes, so that only Credits come back.
func TestCredits(t *testing.T) {
	for seed := range 40 {
		d := dice(seed)
		n, credits := 2+d.roll(2), d.roll(6)
		w := world(t, n, 8, credits)
		unmatched, waits := map[[2]int]int{}, map[[2]int][]int{}
		for range 150 {
			q := 1 + d.roll(n-1)
			p := d.roll(q)
			x := [2]int{p, q}
			switch d.roll(4) {
			case 0:
				if spare(t, w, p, q) > 0 {
					complete(t, w, p, send(t, w, p, q, 0, "x"), from(q, 0, 1), "")
					unmatched[x]++
				}
			case 1:
				waits[x] = append(waits[x], recv(t, w, q, p, 0, 1))
			case 2:
				w.Deliver(p, q)
			case 3:
				w.Deliver(q, p)
			}
			waits[x] = slices.DeleteFunc(waits[x], func(req int) bool {
				_, _, ok, _ := w.Test(q, req)
				if ok {
					unmatched[x]--
				}
				return ok
			})
			back, e := w.Under(q, p)
			is(t, "Under", e, api.OK)
			if got := unmatched[x] + back + spare(t, w, p, q); got != credits {
				t.Fatal("from", p, "to", q, got, "credits of", credits)
			}
		}
	}
}
