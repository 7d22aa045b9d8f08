package wire_test

import (
	"slices"
	"testing"

	"armada/api"
	"armada/net"
	"armada/wire"
)

const (
	highest = int(^uint(0) >> 1)
	lowest  = -highest - 1
)

func list(l ...int) []int { return l }

// torus returns a torus with one host for each switch.
func torus(sides ...int) net.Spec { return net.Spec{Kind: net.Torus, Sides: sides, Hosts: 1} }

// tree returns the tree with the sides k and n.
func tree(k, n int) net.Spec { return net.Spec{Kind: net.Tree, Sides: list(k, n), Hosts: k} }

// dragonfly returns a dragonfly with one host for each switch.
func dragonfly(a, h int) net.Spec { return net.Spec{Kind: net.Dragonfly, Sides: list(a, h), Hosts: 1} }

// withHosts returns a network with another number of hosts.
func withHosts(s net.Spec, hosts int) net.Spec {
	s.Hosts = hosts
	return s
}

// networks returns some networks of all kinds.
func networks() []net.Spec {
	return []net.Spec{
		torus(2), torus(3), torus(4), torus(5), torus(8), torus(2, 2), torus(3, 4), torus(4, 4), torus(2, 2, 2), torus(3, 2, 4), torus(2, 3, 2, 2), withHosts(torus(4), 4), withHosts(torus(3, 3), 2),
		tree(2, 1), tree(2, 2), tree(2, 3), tree(3, 2), tree(8, 1), tree(2, 4), tree(4, 2),
		dragonfly(1, 1), dragonfly(1, 4), dragonfly(2, 1), dragonfly(2, 2), dragonfly(3, 1), dragonfly(4, 2), withHosts(dragonfly(2, 1), 3),
	}
}

// hostsOf returns how many hosts a network has.
func hostsOf(s net.Spec) int {
	_, hosts, _ := net.Size(s)
	return hosts
}

// plain returns a configuration with nothing but a room for packets.
func plain(s net.Spec, room int) wire.Config { return wire.Config{Net: s, Room: room} }

// adaptive returns a configuration whose packets are free at first.
func adaptive(s net.Spec, room int) wire.Config {
	return wire.Config{Net: s, Room: room, Adaptive: true}
}

// both returns the configurations with fixed routes and with free packets.
func both(s net.Spec, room int) []wire.Config {
	return []wire.Config{plain(s, room), adaptive(s, room)}
}

// packet returns a packet without bytes.
func packet(from, to, at int) wire.Packet { return wire.Packet{From: from, To: to, At: at} }

// packets returns count packets from a host to another one at a tick, without bytes.
func packets(count, from, to, at int) []wire.Packet {
	return slices.Repeat([]wire.Packet{packet(from, to, at)}, count)
}

// run returns a report, and fails if there is an error.
func run(t *testing.T, c wire.Config, l []wire.Packet, ticks int) wire.Report {
	t.Helper()
	r, e := wire.Run(c, l, ticks)
	if e != api.OK {
		t.Fatal("Run of", c, "has the error", e)
	}
	return r
}

// isRun fails unless a run has some arrivals, in the order of the report, and ticks. The data of the arrivals does not matter.
func isRun(t *testing.T, what string, r wire.Report, ticks int, arrivals ...wire.Arrival) {
	t.Helper()
	same := func(a, b wire.Arrival) bool {
		return a.Packet == b.Packet && a.Tick == b.Tick && slices.Equal(a.Path, b.Path)
	}
	if r.Ticks != ticks || !slices.EqualFunc(r.Arrivals, arrivals, same) {
		t.Errorf("%s: %v in %d ticks, not %v in %d", what, r.Arrivals, r.Ticks, arrivals, ticks)
	}
}

// at returns an arrival without bytes.
func at(packet, tick int, path ...int) wire.Arrival {
	return wire.Arrival{Packet: packet, Tick: tick, Path: path}
}

// isError fails unless a call returned an error and an empty report.
func isError(t *testing.T, what string, r wire.Report, e, want api.Errno) {
	t.Helper()
	if e != want || len(r.Arrivals) != 0 || r.Ticks != 0 || r.Repetitions != 0 || r.Most != 0 {
		t.Errorf("%s: %v %v, not the error %v", what, r, e, want)
	}
}

// is fails unless a call returned an error.
func is(t *testing.T, what string, got, want api.Errno) {
	t.Helper()
	if got != want {
		t.Errorf("%s: %v, not %v", what, got, want)
	}
}

// scratch overwrites a result.
func scratch[T any](l []T, x T) {
	l = l[:cap(l)]
	for i := range l {
		l[i] = x
	}
}

// dice yields the same numbers in each run of the tests.
type dice uint64

// roll returns a number from 0 to n - 1.
func (d *dice) roll(n int) int {
	*d = *d*6364136223846793005 + 1442695040888963407
	return int(uint64(*d)>>33) % n
}

// bytes returns n bytes.
func (d *dice) bytes(n int) []byte {
	l := make([]byte, n)
	for i := range l {
		l[i] = byte(d.roll(256))
	}
	return l
}

// load returns some packets for a network, with Ats up to latest.
func (d *dice) load(s net.Spec, count, latest int) []wire.Packet {
	hosts := hostsOf(s)
	var l []wire.Packet
	for range count {
		l = append(l, wire.Packet{From: d.roll(hosts), To: d.roll(hosts), At: d.roll(latest + 1), Data: d.bytes(d.roll(wire.MaxData + 1))})
	}
	return l
}

// config returns a configuration for a network.
func (d *dice) config(s net.Spec) wire.Config {
	c := wire.Config{Net: s, Room: 1 + d.roll(wire.MaxRoom), Adaptive: d.roll(2) == 0, Seed: uint64(d.roll(1<<30)) * uint64(d.roll(1<<30))}
	if d.roll(2) == 0 {
		c.Room = 1 + d.roll(2)
	}
	if d.roll(2) == 0 {
		c.Noise = d.roll(wire.MaxNoise + 1)
	}
	if d.roll(2) == 0 {
		c.Jitter = d.roll(wire.MaxJitter + 1)
	}
	return c
}
