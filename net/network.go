package net

import (
	"iter"

	"armada/api"
)

// Limits of networks.
const (
	maxDims  = 4   // of a torus
	maxHosts = 4   // for each switch of a torus or of a dragonfly
	maxSize  = 256 // switches of a torus or of a dragonfly, and hosts of a tree
)

// network is a valid network of one of the kinds. Its switches are numbered from 0 on; the homes of hosts are the first ones.
type network interface {
	size() (switches, homes int)
	// place returns where a switch is, in the terms of the kind.
	place(x int) []int
	// neighbors yields the switches that are linked with a switch, ascending.
	neighbors(x int) iter.Seq[int]
	// route yields for each channel of a route the switch to which it leads, and its class.
	route(x, goal int) iter.Seq2[int, int]
	snake() []int
	// sides yields for each standard side what says whether a switch is in it.
	sides() iter.Seq[func(x int) bool]
}

// networkOf returns the network with a Spec, whose memory it can share.
func networkOf(s Spec) (network, api.Errno) {
	var n network
	valid := false
	switch s.Kind {
	case Torus:
		n, valid = torusOf(s)
	case Tree:
		n, valid = treeOf(s)
	case Dragonfly:
		n, valid = dragonflyOf(s)
	}
	if !valid {
		return nil, api.ErrArg
	}
	return n, api.OK
}

// networkWith returns the network with a Spec if it has some switches.
func networkWith(s Spec, switches ...int) (network, api.Errno) {
	n, e := networkOf(s)
	if e != api.OK {
		return nil, e
	}
	if count, _ := n.size(); !allBelow(count, switches) {
		return nil, api.ErrRange
	}
	return n, api.OK
}

// allBelow reports whether some numbers are all from 0 to n - 1.
func allBelow(n int, l []int) bool {
	for _, x := range l {
		if !within(x, 0, n-1) {
			return false
		}
	}
	return true
}

func within(x, least, most int) bool { return least <= x && x <= most }

// links yields the links of a network, in their order.
func links(n network) iter.Seq[Link] {
	return func(yield func(Link) bool) {
		switches, _ := n.size()
		for x := range switches {
			for y := range n.neighbors(x) {
				if x < y && !yield(Link{x, y}) {
					return
				}
			}
		}
	}
}

// ascending returns the numbers from 0 to n - 1.
func ascending(n int) []int {
	out := make([]int, n)
	for i := range out {
		out[i] = i
	}
	return out
}

// modulo returns the number from 0 to n - 1 that differs from a by a multiple of n.
func modulo(a, n int) int { return (a%n + n) % n }

// power returns k^n.
func power(k, n int) int {
	p := 1
	for range n {
		p *= k
	}
	return p
}
