package wire_test

import (
	"slices"
	"testing"

	"armada/api"
	"armada/net"
	"armada/wire"
)

// oddNumbers returns numbers at the edges of what can be given.
func oddNumbers() []int {
	return list(lowest, lowest+1, -1<<32, -2, -1, 0, 1, 2, 8, 9, 256, 500, 501, 100000, 100001, 1<<32, 1<<62, highest-1, highest)
}

// P5.2, P5.3: the limits have the values that the chapter states.
func TestValuesOfLimits(t *testing.T) {
	if got := list(wire.MaxRoom, wire.MaxNoise, wire.MaxJitter, wire.MaxData, wire.MaxTicks, wire.MaxCount); !slices.Equal(got, list(8, 500, 8, 64, 100000, 256)) {
		t.Error(got)
	}
}

// P5.2: which configurations are valid.
func TestCheck(t *testing.T) {
	for _, s := range networks() {
		for room := 1; room <= wire.MaxRoom; room++ {
			for _, c := range both(s, room) {
				is(t, "Check", wire.Check(c), api.OK)
			}
		}
	}
	c := wire.Config{Net: torus(4), Room: 8, Adaptive: true, Noise: 500, Jitter: 8, Seed: 1<<64 - 1}
	is(t, "Check of the greatest numbers", wire.Check(c), api.OK)
	is(t, "Check of the least numbers", wire.Check(plain(torus(4), 1)), api.OK)
	is(t, "Check of nothing", wire.Check(wire.Config{}), api.ErrArg)
	for _, room := range list(lowest, -1, 0, 9, 1<<32+1, highest) {
		is(t, "Room", wire.Check(plain(torus(4), room)), api.ErrRange)
	}
	for _, noise := range list(lowest, -1, 501, 1<<32, highest) {
		is(t, "Noise", wire.Check(wire.Config{Net: torus(4), Room: 1, Noise: noise}), api.ErrRange)
	}
	for _, jitter := range list(lowest, -1, 9, 1<<32, highest) {
		is(t, "Jitter", wire.Check(wire.Config{Net: torus(4), Room: 1, Jitter: jitter}), api.ErrRange)
	}
}

// invalidNetworks returns networks that are not valid.
func invalidNetworks() []net.Spec {
	return []net.Spec{{}, torus(), torus(1), torus(17), torus(16, 17), tree(1, 2), tree(2, 5), withHosts(tree(2, 2), 1), dragonfly(0, 1), dragonfly(16, 1), withHosts(torus(4), 0), withHosts(torus(4), 5), {Kind: 4, Sides: list(2, 2), Hosts: 1}, {Kind: -1, Sides: list(2, 2), Hosts: 2}}
}

// P5.2, P5.3: the network comes first, and Run returns the error of Check before all others.
func TestInvalidConfigs(t *testing.T) {
	bad := [][]wire.Packet{nil, {packet(0, 1, 0)}, {packet(-1, 0, 0)}, packets(wire.MaxCount+1, 0, 0, 0)}
	for _, s := range invalidNetworks() {
		for _, room := range list(0, 1, 9) {
			c := wire.Config{Net: s, Room: room, Noise: room - 1}
			is(t, "Check", wire.Check(c), api.ErrArg)
			for _, l := range bad {
				for _, ticks := range list(-1, 0, 10, wire.MaxTicks+1) {
					r, e := wire.Run(c, l, ticks)
					isError(t, "Run", r, e, api.ErrArg)
				}
			}
		}
	}
	for _, c := range []wire.Config{{Net: torus(4)}, {Net: torus(4), Room: 9}, {Net: torus(4), Room: 1, Noise: 501}, {Net: torus(4), Room: 1, Jitter: -1}} {
		for _, l := range bad {
			for _, ticks := range list(-1, 0, 10) {
				r, e := wire.Run(c, l, ticks)
				isError(t, "Run", r, e, api.ErrRange)
			}
		}
	}
}

// P5.3: the limits of packets and ticks, of which each is still valid itself.
func TestLimits(t *testing.T) {
	for _, s := range []net.Spec{torus(4), withHosts(torus(4), 3), tree(2, 3), withHosts(dragonfly(2, 1), 2)} {
		for _, c := range both(s, 1) {
			last := hostsOf(s) - 1
			long := wire.Packet{From: last, To: last, At: wire.MaxTicks, Data: make([]byte, wire.MaxData)}
			run(t, c, []wire.Packet{long}, wire.MaxTicks)
			long.At = 0
			if r := run(t, c, []wire.Packet{long}, wire.MaxTicks); len(r.Arrivals) != 1 || len(r.Arrivals[0].Data) != wire.MaxData {
				t.Error(r)
			}
			if r := run(t, c, packets(wire.MaxCount, 0, last, 0), wire.MaxTicks); len(r.Arrivals) != wire.MaxCount {
				t.Error(len(r.Arrivals), "arrivals")
			}
			for _, ticks := range list(lowest, -1<<32, -1, wire.MaxTicks+1, 1<<32, highest) {
				for _, l := range [][]wire.Packet{nil, {packet(0, 1, 0)}} {
					r, e := wire.Run(c, l, ticks)
					isError(t, "ticks", r, e, api.ErrRange)
				}
			}
			for _, host := range list(lowest, -1<<32, -1, last+1, 1<<32, highest) {
				r, e := wire.Run(c, []wire.Packet{packet(host, 0, 0)}, 9)
				isError(t, "From", r, e, api.ErrRange)
				r, e = wire.Run(c, []wire.Packet{packet(0, host, 0)}, 9)
				isError(t, "To", r, e, api.ErrRange)
			}
			for _, at := range list(lowest, -1<<32, -1, wire.MaxTicks+1, 1<<32, highest) {
				r, e := wire.Run(c, []wire.Packet{packet(0, 0, at)}, 9)
				isError(t, "At", r, e, api.ErrRange)
			}
			for _, n := range list(wire.MaxData+1, wire.MaxData+2, 1000) {
				r, e := wire.Run(c, []wire.Packet{{Data: make([]byte, n)}}, 9)
				isError(t, "Data", r, e, api.ErrLong)
			}
			for _, n := range list(wire.MaxCount+1, 1000) {
				r, e := wire.Run(c, packets(n, 0, 0, 0), 9)
				isError(t, "packets", r, e, api.ErrMany)
			}
		}
	}
}

// P5.3, R1: which of several errors comes first.
func TestErrorsInOrder(t *testing.T) {
	c := plain(torus(4), 1)
	good, far, long := packet(0, 1, 0), packet(4, 1, 0), wire.Packet{Data: make([]byte, wire.MaxData+1)}
	farAndLong := wire.Packet{To: 4, Data: make([]byte, wire.MaxData+1)}
	lateAndLong := wire.Packet{At: -1, Data: make([]byte, wire.MaxData+1)}
	for _, x := range []struct {
		what  string
		l     []wire.Packet
		ticks int
		want  api.Errno
	}{
		{"too many, all with errors", append([]wire.Packet{far, long}, packets(wire.MaxCount, 9, 9, -1)...), -1, api.ErrMany},
		{"far, then long", []wire.Packet{good, far, long}, 9, api.ErrRange},
		{"long, then far", []wire.Packet{good, long, far}, 9, api.ErrLong},
		{"far and long", []wire.Packet{good, farAndLong, long}, 9, api.ErrRange},
		{"late and long", []wire.Packet{lateAndLong}, 9, api.ErrRange},
		{"long, and ticks", []wire.Packet{good, good, long}, -1, api.ErrLong},
		{"long, and many ticks", []wire.Packet{long}, wire.MaxTicks + 1, api.ErrLong},
		{"ticks alone", []wire.Packet{good}, wire.MaxTicks + 1, api.ErrRange},
	} {
		r, e := wire.Run(c, x.l, x.ticks)
		isError(t, x.what, r, e, x.want)
	}
}
