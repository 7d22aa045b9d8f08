package wire_test

import (
	"slices"
	"testing"

	"armada/api"
	"armada/net"
	"armada/wire"
)

// P0: no call panics or goes on forever, whatever its arguments are.
func TestAllArguments(t *testing.T) {
	specs := append(invalidNetworks(), torus(4), tree(2, 2), dragonfly(2, 1))
	for _, s := range specs {
		for _, x := range oddNumbers() {
			for _, y := range oddNumbers() {
				for _, free := range []bool{false, true} {
					configs := []wire.Config{{Net: s, Room: x, Noise: y, Adaptive: free}, {Net: s, Room: 1, Noise: x, Jitter: y, Adaptive: free, Seed: uint64(x)}, {Net: s, Room: 8, Seed: uint64(y), Adaptive: free}}
					for _, c := range configs {
						checked := wire.Check(c)
						for _, l := range [][]wire.Packet{nil, {{From: x, To: y, At: 3}}, {{At: x, Data: make([]byte, 70)}}, {packet(0, 1, 0), packet(1, 0, y)}} {
							r, e := wire.Run(c, l, min(x, 1000))
							if checked != api.OK && e != checked || e != api.OK && r.Ticks != 0 {
								t.Fatal(c, l, r, e)
							}
						}
					}
				}
			}
		}
	}
	d := dice(13)
	for n := range 5000 {
		wire.Right(d.bytes(n % 100))
		wire.Sum(d.bytes(n % 100))
	}
}

// P0: the longest runs end, also if all packets are repeated often, and delayed.
func TestLongRuns(t *testing.T) {
	d := dice(14)
	for _, s := range []net.Spec{torus(16, 16), tree(4, 4), dragonfly(15, 1)} {
		for _, c := range both(s, 1) {
			c.Noise, c.Jitter, c.Seed = wire.MaxNoise, wire.MaxJitter, 99
			l := d.load(s, wire.MaxCount, wire.MaxTicks/2)
			if r := run(t, c, l, wire.MaxTicks); len(r.Arrivals) != len(l) {
				t.Error(len(r.Arrivals), "arrivals")
			}
			for i := range l {
				l[i].At, l[i].To = 0, 0
			}
			if r := run(t, c, l, wire.MaxTicks); len(r.Arrivals) != len(l) || r.Ticks < wire.MaxCount {
				t.Error(len(r.Arrivals), "arrivals in", r.Ticks, "ticks")
			}
		}
	}
}

// R3: an empty list is a nil list.
func TestNilLists(t *testing.T) {
	for _, c := range both(torus(4), 1) {
		for _, l := range [][]wire.Packet{nil, {}} {
			isRun(t, "no packets", run(t, c, l, 10), 0)
		}
		for _, data := range [][]byte{nil, {}} {
			r := run(t, c, []wire.Packet{{From: 0, To: 1, Data: data}, {From: 2, To: 2, Data: data}}, 10)
			isRun(t, "no bytes", r, 2, at(1, 0, 2), at(0, 1, 0, 1))
			if len(r.Arrivals[0].Data)+len(r.Arrivals[1].Data) != 0 {
				t.Error(r)
			}
		}
		for _, sides := range [][]int{nil, {}} {
			c.Net.Sides = sides
			is(t, "no sides", wire.Check(c), api.ErrArg)
		}
	}
}

// copied returns a copy of a report that shares no memory with it.
func copied(r wire.Report) wire.Report {
	r.Arrivals = slices.Clone(r.Arrivals)
	for i := range r.Arrivals {
		a := &r.Arrivals[i]
		a.Path, a.Data = slices.Clone(a.Path), slices.Clone(a.Data)
	}
	return r
}

// R4: Run changes no argument, and its reports share no memory with one, nor with each other, nor do their parts.
func TestMemory(t *testing.T) {
	d := dice(15)
	for _, s := range networks() {
		for range 10 {
			c, l := d.config(s), d.load(s, 20, 5)
			l = append(l, wire.Packet{Data: []byte("stays at home")}) // a packet that is never sent
			l = append(l, l...)                                       // packets that share their Data
			c.Net.Sides = slices.Clone(s.Sides)
			was := slices.Clone(l)
			for i := range was {
				was[i].Data = slices.Clone(l[i].Data)
			}
			r := run(t, c, l, enough)
			want := copied(r)
			for i := range r.Arrivals {
				if !sameReports(wire.Report{Arrivals: r.Arrivals[i:]}, wire.Report{Arrivals: want.Arrivals[i:]}) {
					t.Fatal("parts share memory")
				}
				scratch(r.Arrivals[i].Path, -1)
				scratch(r.Arrivals[i].Data, 77)
			}
			for i := range l {
				if p := l[i]; p.From != was[i].From || p.To != was[i].To || p.At != was[i].At || !slices.Equal(p.Data, was[i].Data) {
					t.Fatal("an argument changed")
				}
			}
			if !slices.Equal(c.Net.Sides, s.Sides) {
				t.Fatal("the network changed")
			}
			again := run(t, c, l, enough)
			for i := range l {
				scratch(l[i].Data, 88)
			}
			scratch(l, wire.Packet{})
			scratch(c.Net.Sides, 99)
			if !sameReports(again, want) {
				t.Fatal("a report changed")
			}
		}
	}
}
