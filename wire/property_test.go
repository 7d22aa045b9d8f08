package wire_test

import (
	"slices"
	"testing"

	"armada/net"
	"armada/wire"
)

// enough is more ticks than the runs of these tests need.
const enough = 20000

// everyArrival runs loads on all kinds of networks and configurations, and calls f with them.
func everyArrival(t *testing.T, seed uint64, f func(c wire.Config, l []wire.Packet, r wire.Report)) {
	d := dice(seed)
	for _, s := range networks() {
		for range 25 {
			c, l := d.config(s), d.load(s, d.roll(80), d.roll(50))
			r := run(t, c, l, enough)
			if len(r.Arrivals) != len(l) {
				t.Fatal(c, l, len(r.Arrivals), "arrivals")
			}
			f(c, l, r)
		}
	}
}

// home returns the home of a host.
func home(s net.Spec, host int) int {
	x, _ := net.Home(s, host)
	return x
}

// P5.4: a packet arrives with the Data with which it was sent.
func TestDataArrive(t *testing.T) {
	everyArrival(t, 6, func(c wire.Config, l []wire.Packet, r wire.Report) {
		for _, a := range r.Arrivals {
			if !slices.Equal(a.Data, l[a.Packet].Data) {
				t.Error(c, a, l[a.Packet])
			}
		}
	})
}

// P5.5: packets arrive once, on a path between their homes, which is long enough and not too long.
func TestPaths(t *testing.T) {
	everyArrival(t, 7, func(c wire.Config, l []wire.Packet, r wire.Report) {
		arrived := make([]bool, len(l))
		for _, a := range r.Arrivals {
			if arrived[a.Packet] {
				t.Error("packet", a.Packet, "arrived twice")
			}
			arrived[a.Packet] = true
			isPathOf(t, c, l[a.Packet], a)
		}
		if r.Most > c.Room {
			t.Error(c, "has taken", r.Most, "places")
		}
	})
}

// isPathOf fails unless a packet arrived on a path that it can take.
func isPathOf(t *testing.T, c wire.Config, p wire.Packet, a wire.Arrival) {
	t.Helper()
	from, goal := home(c.Net, p.From), home(c.Net, p.To)
	if a.Path[0] != from || a.Path[len(a.Path)-1] != goal {
		t.Error(c, p, "arrived on", a.Path)
	}
	for i, x := range a.Path[1:] {
		if near, _ := net.Neighbors(c.Net, x); !slices.Contains(near, a.Path[i]) {
			t.Error(c, p, "has no path:", a.Path)
		}
	}
	length := len(a.Path) - 1
	if a.Tick < p.At+length {
		t.Error(c, p, "arrived too early:", a)
	}
	route, _ := net.Route(c.Net, from, goal)
	if !c.Adaptive && !slices.Equal(a.Path, route) {
		t.Error(c, p, "left its route:", a.Path, route)
	}
	distance, _ := net.Distance(c.Net, from, goal)
	switch {
	case !c.Adaptive:
	case c.Net.Kind == net.Dragonfly && length != distance && length != distance+1, c.Net.Kind != net.Dragonfly && length != distance:
		t.Error(c, p, "the distance is", distance, "but the path", a.Path)
	}
}

// P5.5: a free packet can take paths that are not its route, but none that is longer than both this and the distance.
func TestFreePathsDiffer(t *testing.T) {
	other := 0
	everyArrival(t, 8, func(c wire.Config, l []wire.Packet, r wire.Report) {
		for _, a := range r.Arrivals {
			from, goal := a.Path[0], a.Path[len(a.Path)-1]
			route, _ := net.Route(c.Net, from, goal)
			distance, _ := net.Distance(c.Net, from, goal)
			if c.Adaptive && !slices.Equal(route, a.Path) {
				other++
				if len(a.Path)-1 > distance {
					t.Error(c, a, "is longer than the distance, and not the route")
				}
			}
		}
	})
	if other == 0 {
		t.Error("all free packets took their routes")
	}
	r := run(t, adaptive(dragonfly(4, 2), 1), packets(2, 1, 5, 0), 100)
	isRun(t, "the route is longer than the distance", r, 5, at(0, 2, 1, 18, 5), at(1, 4, 1, 0, 7, 5))
}

// P5.6: on fixed routes, packets between the same hosts arrive in the order in which they entered the queue.
func TestOrder(t *testing.T) {
	d := dice(9)
	for _, s := range networks() {
		for range 25 {
			c, l := d.config(s), d.load(s, 80, 20)
			c.Adaptive = false
			for i := range l { // few hosts
				l[i].From, l[i].To = l[i].From/5, hostsOf(s)-1-l[i].To/5
			}
			before := map[[2]int]int{}
			for _, a := range run(t, c, l, enough).Arrivals {
				p := l[a.Packet]
				place := p.At*len(l) + a.Packet // ascends as packets enter queues
				if pair := [2]int{p.From, p.To}; before[pair] > place {
					t.Fatal(c, l, "packet", a.Packet, "arrived late")
				} else {
					before[pair] = place
				}
			}
		}
	}
}

// ticksFor returns how many ticks are enough for all packets of a run: the greatest At, the lengths of their paths, and 1 for each.
func ticksFor(l []wire.Packet, r wire.Report) int {
	n := len(l)
	latest := 0
	for _, p := range l {
		latest = max(latest, p.At)
	}
	for _, a := range r.Arrivals {
		n += len(a.Path) - 1
	}
	return latest + n
}

// arriveInTime fails unless all packets of a run without noise and jitter arrive in the ticks that the chapter gives them.
func arriveInTime(t *testing.T, c wire.Config, l []wire.Packet) {
	t.Helper()
	r := run(t, c, l, wire.MaxTicks)
	if len(r.Arrivals) != len(l) || r.Ticks > ticksFor(l, r) {
		t.Fatal(c, l, len(r.Arrivals), "arrivals in", r.Ticks, "ticks")
	}
	if again := run(t, c, l, ticksFor(l, r)); !sameReports(r, again) {
		t.Fatal(c, l, "does not end as it did")
	}
}

// P5.7: all packets arrive in time, whatever the load is.
func TestProgress(t *testing.T) {
	d := dice(10)
	large := []net.Spec{torus(16), torus(16, 16), torus(4, 4, 4, 4), torus(15, 3), tree(4, 4), tree(8, 2), tree(2, 4), dragonfly(15, 1), dragonfly(7, 4), dragonfly(1, 4)}
	for i, s := range append(large, networks()...) {
		times := 4
		if i < len(large) {
			times = 1
		}
		for range times {
			for _, c := range both(s, 1+d.roll(2)) {
				l := d.load(s, wire.MaxCount, d.roll(5))
				arriveInTime(t, c, l)
				for i := range l { // each host gives all of its packets to one other host, far away
					l[i].To = (l[i].From + hostsOf(s)/2) % hostsOf(s)
				}
				arriveInTime(t, c, l)
			}
		}
	}
}

// P5.7: packets that go half around a ring, or around corners, from all switches at the same time, block each other in no way.
func TestNoDeadlock(t *testing.T) {
	for _, s := range []net.Spec{torus(4), torus(5), torus(8), torus(16), torus(4, 4), torus(8, 4), torus(5, 5), tree(2, 4), tree(4, 2), dragonfly(2, 1), dragonfly(3, 2), dragonfly(1, 4)} {
		hosts := hostsOf(s)
		for shift := range hosts {
			for _, c := range both(s, 1) {
				var l []wire.Packet
				for range wire.MaxCount / hosts {
					for x := range hosts {
						l = append(l, packet(x, (x+shift)%hosts, 0))
					}
				}
				arriveInTime(t, c, l)
			}
		}
	}
}

// P5.7: in each tick without noise and jitter with a packet in the network, one is sent or leaves.
func TestSomethingHappens(t *testing.T) {
	d := dice(11)
	for _, s := range networks() {
		for range 5 {
			for _, c := range both(s, 1) {
				l := d.load(s, 60, d.roll(10))
				m := modelOf(c, l)
				if want := m.run(enough); m.stuck || !sameReports(run(t, c, l, enough), want) {
					t.Fatal(c, l, m.stuck)
				}
			}
		}
	}
}

// P5.8: equal runs have equal reports, and without noise and jitter the seed does not matter.
func TestSeeds(t *testing.T) {
	d := dice(12)
	different := 0
	for _, s := range networks() {
		for range 10 {
			c, l := d.config(s), d.load(s, 40, 10)
			r := run(t, c, l, enough)
			if !sameReports(r, run(t, c, l, enough)) {
				t.Fatal(c, l, "has two reports")
			}
			other := c
			other.Seed ^= uint64(1) << d.roll(64)
			if same := sameReports(r, run(t, other, l, enough)); !same {
				different++
				if c.Noise == 0 && c.Jitter == 0 {
					t.Fatal(c, l, "depends on the seed")
				}
			}
		}
	}
	if different == 0 {
		t.Error("the seed never matters")
	}
}
