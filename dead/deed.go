package dead

import (
	"slices"

	"armada/api"
	"armada/lang"
)

// count returns how many elements of a list are as wanted.
func count[T any](l []T, wanted func(T) bool) int {
	n := 0
	for _, v := range l {
		if wanted(v) {
			n++
		}
	}
	return n
}

// sends reports whether a deed is a message.
func sends(d lang.Deed) bool { return d.Kind == lang.DSend || d.Kind == lang.DIsend }

// fits reports whether a message can be received by a receive of its destination from its source.
func fits(message, receive lang.Deed) bool {
	return receive.Tag == message.Tag || receive.Tag == api.AnyTag
}

// isWild reports whether a deed is a receive from any process: no other deed has this Peer.
func isWild(d lang.Deed) bool { return d.Peer == api.AnySource }

// isOpen reports whether a case has a receive from any process.
func isOpen(c [][]lang.Deed) bool {
	return slices.ContainsFunc(c, func(l []lang.Deed) bool { return slices.ContainsFunc(l, isWild) })
}
