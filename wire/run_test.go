package wire_test

import (
	"cmp"
	"slices"
	"testing"

	"armada/wire"
)

// P5.3: the chapter's examples.
func TestExamples(t *testing.T) {
	c := plain(torus(4), 1)
	isRun(t, "one packet", run(t, c, packets(1, 0, 2, 0), 100), 3, at(0, 2, 0, 1, 2))
	r := run(t, c, packets(2, 0, 2, 0), 100)
	isRun(t, "two packets", r, 5, at(0, 2, 0, 1, 2), at(1, 4, 0, 1, 2))
	if r.Most != 1 || r.Repetitions != 0 {
		t.Error(r)
	}
	c.Room = 2
	r = run(t, c, packets(2, 0, 2, 0), 100)
	isRun(t, "two packets and two places", r, 4, at(0, 2, 0, 1, 2), at(1, 3, 0, 1, 2))
	if r.Most != 1 || r.Repetitions != 0 {
		t.Error(r)
	}
	isRun(t, "two free packets", run(t, adaptive(torus(2, 2), 1), packets(2, 0, 3, 0), 100), 4, at(0, 2, 0, 1, 3), at(1, 3, 0, 2, 3))
	c.Room = 1
	isRun(t, "a packet from 1 to 1", run(t, c, packets(1, 1, 1, 5), 10), 6, at(0, 5, 1))
	isRun(t, "a packet that is too late", run(t, c, packets(1, 1, 1, 5), 5), 5)
}

// P5.3: how many ticks a run has.
func TestTicks(t *testing.T) {
	for _, c := range both(torus(4), 1) {
		for ticks := range 6 {
			isRun(t, "no packets", run(t, c, nil, ticks), 0)
			isRun(t, "a packet that never comes", run(t, c, packets(1, 0, 0, wire.MaxTicks), ticks), ticks)
			arrivals := []wire.Arrival{at(0, 2, 0, 1, 2)}[:min(1, ticks/3)]
			isRun(t, "a packet from 0 to 2", run(t, c, packets(1, 0, 2, 0), ticks), min(ticks, 3), arrivals...)
		}
		isRun(t, "no packets", run(t, c, nil, wire.MaxTicks), 0)
		isRun(t, "a packet after the last tick", run(t, c, packets(1, 0, 0, wire.MaxTicks), wire.MaxTicks), wire.MaxTicks)
		isRun(t, "a packet in the last tick", run(t, c, packets(1, 0, 0, wire.MaxTicks-1), wire.MaxTicks), wire.MaxTicks, at(0, wire.MaxTicks-1, 0))
	}
}

// P5.3: of the packets that wish for a channel, or to leave to a host, the one with the least number gets it.
func TestLeastNumber(t *testing.T) {
	c := plain(torus(8), 8)
	l := []wire.Packet{packet(0, 2, 0), packet(1, 2, 0), packet(1, 2, 0)}
	isRun(t, "from the buffer first", run(t, c, l, 100), 4, at(1, 1, 1, 2), at(0, 2, 0, 1, 2), at(2, 3, 1, 2))
	l = []wire.Packet{packet(1, 2, 0), packet(1, 2, 0), packet(0, 2, 0)}
	isRun(t, "from the queue first", run(t, c, l, 100), 4, at(0, 1, 1, 2), at(1, 2, 1, 2), at(2, 3, 0, 1, 2))
	l = []wire.Packet{packet(3, 2, 0), packet(1, 2, 0), packet(2, 2, 0)}
	isRun(t, "to one host", run(t, c, l, 100), 3, at(2, 0, 2), at(0, 1, 3, 2), at(1, 2, 1, 2))
	l = []wire.Packet{packet(2, 2, 1), packet(3, 2, 0), packet(1, 2, 0)}
	isRun(t, "to one host, also from its queue", run(t, c, l, 100), 4, at(0, 1, 2), at(1, 2, 3, 2), at(2, 3, 1, 2))
	c.Net.Hosts = 2
	l = []wire.Packet{packet(6, 4, 0), packet(2, 5, 0), packet(4, 5, 1), packet(5, 4, 1)}
	isRun(t, "to two hosts of a switch", run(t, c, l, 100), 3, at(0, 1, 3, 2), at(1, 1, 1, 2), at(2, 2, 2), at(3, 2, 2))
}

// P5.3: a wish that is not possible hinders no other one for the channel in another class.
func TestClassesOfAChannel(t *testing.T) {
	l := []wire.Packet{packet(0, 2, 0), packet(0, 1, 0), packet(3, 1, 0)}
	isRun(t, "room 1", run(t, plain(torus(4), 1), l, 100), 4, at(0, 2, 0, 1, 2), at(2, 2, 3, 0, 1), at(1, 3, 0, 1))
	isRun(t, "room 2", run(t, plain(torus(4), 2), l, 100), 4, at(0, 2, 0, 1, 2), at(1, 2, 0, 1), at(2, 3, 3, 0, 1))
}

// P5.3: packets enter queues by their Ats, and then by their numbers, and wait behind the first one.
func TestQueues(t *testing.T) {
	c := plain(torus(4), 2)
	l := []wire.Packet{packet(0, 1, 5), packet(0, 1, 0), packet(0, 1, 0)}
	isRun(t, "by Ats", run(t, c, l, 100), 7, at(1, 1, 0, 1), at(2, 2, 0, 1), at(0, 6, 0, 1))
	l = []wire.Packet{packet(0, 1, 2), packet(0, 1, 1), packet(0, 1, 2), packet(0, 3, 0), packet(0, 0, 1)}
	isRun(t, "in turn", run(t, c, l, 100), 6, at(3, 1, 0, 3), at(1, 2, 0, 1), at(4, 2, 0), at(0, 4, 0, 1), at(2, 5, 0, 1))
	c.Room = 1
	l = []wire.Packet{packet(0, 1, 0), packet(0, 1, 0), packet(0, 3, 0)}
	isRun(t, "behind one that waits", run(t, c, l, 100), 5, at(0, 1, 0, 1), at(1, 3, 0, 1), at(2, 4, 0, 3))
	c.Net.Hosts = 2
	l = []wire.Packet{packet(0, 2, 0), packet(0, 2, 0), packet(1, 6, 0)}
	isRun(t, "from two hosts of a switch", run(t, c, l, 100), 4, at(0, 1, 0, 1), at(2, 1, 0, 3), at(1, 3, 0, 1))
}

// P5.3: a free packet takes the hop with the most free places, of several ones the least switch, and is bound to its route if there is none.
func TestFreePackets(t *testing.T) {
	l := packets(4, 0, 5, 0)
	isRun(t, "two hops in turn", run(t, adaptive(torus(4, 4), 8), l, 100), 6, at(0, 2, 0, 1, 5), at(1, 3, 0, 4, 5), at(2, 4, 0, 1, 5), at(3, 5, 0, 4, 5))
	l = packets(3, 0, 1, 0)
	r := run(t, adaptive(torus(4), 1), l, 100)
	isRun(t, "the route in the class 0", r, 4, at(0, 1, 0, 1), at(1, 2, 0, 1), at(2, 3, 0, 1))
	l = []wire.Packet{packet(2, 1, 0), packet(2, 1, 0), packet(0, 1, 0), packet(0, 1, 0), packet(0, 1, 0), packet(0, 3, 0)}
	r = run(t, adaptive(torus(4), 1), l, 100)
	isRun(t, "both classes are full", r, 7, at(0, 1, 2, 1), at(1, 2, 2, 1), at(2, 3, 0, 1), at(3, 4, 0, 1), at(4, 5, 0, 1), at(5, 6, 0, 3))
	if r.Most != 1 {
		t.Error("Most:", r.Most)
	}
}

// P5.3: the most places that are taken in one buffer.
func TestMost(t *testing.T) {
	for room := 1; room <= wire.MaxRoom; room++ {
		for count := 1; count <= 12; count++ {
			c := plain(torus(8), room)
			l := append(packets(20, 1, 0, 0), packets(count, 7, 0, 0)...)
			r := run(t, c, l, 1000)
			if want := min(room, count); r.Most != want {
				t.Error("room", room, "packets", count, "most", r.Most)
			}
			if len(r.Arrivals) != len(l) {
				t.Error(len(r.Arrivals), "arrivals")
			}
			if r := run(t, c, l, 0); r.Most != 0 {
				t.Error("Most in no tick:", r.Most)
			}
			if r := run(t, c, l, 2); r.Most != min(room, count, 2) {
				t.Error("Most in two ticks:", r.Most)
			}
		}
	}
	if r := run(t, plain(torus(8), 4), packets(200, 3, 3, 0), 1000); r.Most != 0 || r.Ticks != 200 {
		t.Error("queues are no buffers:", r.Most, r.Ticks)
	}
}

// P5.3: what is drawn for the jitter. The dice are the generator of the chapter.
func TestJitter(t *testing.T) {
	for seed := range uint64(300) {
		for jitter := 0; jitter <= wire.MaxJitter; jitter++ {
			d := dice(seed)
			roll := func() int {
				if jitter == 0 {
					return 0
				}
				return d.roll(jitter + 1)
			}
			c := wire.Config{Net: torus(4), Room: 8, Jitter: jitter, Seed: seed}
			first := 1 + roll()
			second := max(2+roll(), first+1)
			r := run(t, c, packets(2, 0, 1, 0), 100)
			isRun(t, "two packets", r, second+1, at(0, first, 0, 1), at(1, second, 0, 1))
			d = dice(seed)
			there := 1 + roll()
			first = there + 1 + roll()
			second = max(there+2+roll(), first+1)
			r = run(t, c, []wire.Packet{packet(0, 1, there), packet(3, 1, 0)}, 100)
			isRun(t, "two classes of a channel", r, second+1, at(0, first, 0, 1), at(1, second, 3, 0, 1))
		}
	}
}

// disturbed draws bits of a frame with some bits, which are inverted, and reports whether any of them is inverted in the end.
func disturbed(d *dice, bits int) bool {
	inverted := map[int]bool{}
	for range d.roll(3) + 1 {
		bit := d.roll(bits)
		inverted[bit] = !inverted[bit]
	}
	for _, yes := range inverted {
		if yes {
			return true
		}
	}
	return false
}

// P5.3, P5.4: what is drawn for the noise: a packet is repeated, unless all inverted bits are inverted back.
func TestNoise(t *testing.T) {
	back := 0
	for seed := range uint64(1000) {
		for _, noise := range list(1, 2, 250, 499, wire.MaxNoise) {
			for _, n := range list(0, 1, wire.MaxData) {
				d := dice(seed)
				repetitions := 0
				for d.roll(1000) < noise {
					if !disturbed(&d, 8*(n+2)) {
						back++
						break
					}
					repetitions++
				}
				l := packets(1, 0, 1, 0)
				l[0].Data = d.bytes(n)
				r := run(t, wire.Config{Net: torus(4), Room: 1, Noise: noise, Seed: seed}, l, 1000)
				isRun(t, "noise", r, repetitions+2, at(0, repetitions+1, 0, 1))
				if r.Repetitions != repetitions || !slices.Equal(r.Arrivals[0].Data, l[0].Data) {
					t.Fatal(seed, noise, n, r, repetitions)
				}
			}
		}
	}
	if back == 0 {
		t.Error("no bits were inverted back")
	}
}

// P5.3: what is drawn is drawn for one packet after another: a repetition draws no jitter, and a packet that leaves draws nothing.
func TestDraws(t *testing.T) {
	for seed := range uint64(300) {
		d := dice(seed)
		var l []wire.Packet
		var want []wire.Arrival
		for i := range 3 {
			now := 1000 * i
			l = append(l, wire.Packet{From: 0, To: 2, At: now, Data: []byte("some bytes")})
			for range 2 { // channels
				for d.roll(1000) < 300 && disturbed(&d, 96) {
					now++
				}
				now += 1 + d.roll(6)
			}
			want = append(want, at(i, now, 0, 1, 2))
		}
		r := run(t, wire.Config{Net: torus(4), Room: 8, Noise: 300, Jitter: 5, Seed: seed}, l, 10000)
		isRun(t, "draws", r, want[2].Tick+1, want...)
	}
}

// P5.3: draws are made for all packets that are sent in a tick, in the order of their numbers, wherever they are.
func TestDrawsInOrder(t *testing.T) {
	for seed := range uint64(300) {
		d := dice(seed)
		delays := list(d.roll(9), d.roll(9), d.roll(9))
		l := []wire.Packet{packet(6, 7, 0), packet(2, 1, 0), packet(4, 5, 0)}
		r := run(t, wire.Config{Net: torus(8), Room: 1, Jitter: 8, Seed: seed}, l, 100)
		for _, a := range r.Arrivals {
			if a.Tick != 1+delays[a.Packet] {
				t.Fatal(seed, r, delays)
			}
		}
		sorted := slices.IsSortedFunc(r.Arrivals, func(a, b wire.Arrival) int {
			return cmp.Or(cmp.Compare(a.Tick, b.Tick), cmp.Compare(a.Packet, b.Packet))
		})
		if len(r.Arrivals) != 3 || !sorted {
			t.Error("arrivals are not sorted:", r)
		}
	}
}

// P5.3: runs of all kinds of networks and configurations are what the model says.
func TestRunLikeTheModel(t *testing.T) {
	d := dice(4)
	for _, s := range networks() {
		for range 40 {
			c, l := d.config(s), d.load(s, d.roll(40), d.roll(30))
			isLikeTheModel(t, c, l, d.roll(60))
			isLikeTheModel(t, c, l, 500)
		}
		for range 3 {
			c := d.config(s)
			c.Room = 1 + d.roll(2)
			isLikeTheModel(t, c, d.load(s, 100, 3), 800)
		}
	}
}

// P5.3: runs in which many packets go to few hosts are what the model says.
func TestCrowdsLikeTheModel(t *testing.T) {
	d := dice(5)
	for _, s := range networks() {
		for range 15 {
			c, l := d.config(s), d.load(s, 60, 5)
			few := 1 + d.roll(3)
			for i := range l {
				l[i].To = min(d.roll(few)*7, hostsOf(s)-1)
			}
			isLikeTheModel(t, c, l, 1000)
		}
	}
}

// isLikeTheModel fails unless a run is what the model says.
func isLikeTheModel(t *testing.T, c wire.Config, l []wire.Packet, ticks int) {
	t.Helper()
	got, want := run(t, c, l, ticks), modelOf(c, l).run(ticks)
	if !sameReports(got, want) {
		t.Fatal(c, l, ticks, "\n", got, "\n", want)
	}
}

// sameReports reports whether two reports are the same.
func sameReports(a, b wire.Report) bool {
	same := func(a, b wire.Arrival) bool {
		return a.Packet == b.Packet && a.Tick == b.Tick && slices.Equal(a.Path, b.Path) && slices.Equal(a.Data, b.Data)
	}
	return a.Ticks == b.Ticks && a.Repetitions == b.Repetitions && a.Most == b.Most && slices.EqualFunc(a.Arrivals, b.Arrivals, same)
}
