package dead

import (
	"armada/api"
	"armada/lang"
)

// Check checks a case: the deeds of each process.
func Check(c [][]lang.Deed) api.Errno {
	if len(c) < 1 || len(c) > api.MaxRanks {
		return api.ErrRange
	}
	for _, l := range c {
		if len(l) > MaxDeeds {
			return api.ErrMany
		}
	}
	for _, l := range c {
		if !areFormed(l, len(c)) {
			return api.ErrArg
		}
	}
	return api.OK
}

// areFormed reports whether the deeds of one of n processes are well-formed.
func areFormed(l []lang.Deed, n int) bool {
	var waits []bool // by request: whether the process can still wait for it
	for _, d := range l {
		if !isFormed(d, n) {
			return false
		}
		switch d.Kind {
		case lang.DIsend, lang.DIrecv:
			if d.Req != len(waits) {
				return false
			}
			waits = append(waits, true)
		case lang.DWait:
			if d.Req < 0 || d.Req >= len(waits) || !waits[d.Req] {
				return false
			}
			waits[d.Req] = false
		}
	}
	return true
}

// isFormed reports whether a deed of one of n processes is well-formed, whatever the number of its request is.
func isFormed(d lang.Deed, n int) bool {
	switch d.Kind {
	case lang.DSend:
		return d == lang.Deed{Kind: d.Kind, Peer: d.Peer, Tag: d.Tag, Sync: d.Sync} && isSent(d, n)
	case lang.DIsend:
		return d == lang.Deed{Kind: d.Kind, Peer: d.Peer, Tag: d.Tag, Req: d.Req} && isSent(d, n)
	case lang.DRecv:
		return d == lang.Deed{Kind: d.Kind, Peer: d.Peer, Tag: d.Tag} && isReceived(d, n)
	case lang.DIrecv:
		return d == lang.Deed{Kind: d.Kind, Peer: d.Peer, Tag: d.Tag, Req: d.Req} && isReceived(d, n)
	case lang.DWait:
		return d == lang.Deed{Kind: d.Kind, Req: d.Req}
	case lang.DMeet:
		return d == lang.Deed{Kind: d.Kind}
	}
	return false
}

// isSent reports whether a message goes to one of n processes, with a tag.
func isSent(d lang.Deed, n int) bool {
	return d.Peer >= 0 && d.Peer < n && d.Tag >= 0 && d.Tag <= api.MaxTag
}

// isReceived reports whether a message can be received from one of n processes or from any, with a tag or any.
func isReceived(d lang.Deed, n int) bool {
	if d.Peer == api.AnySource {
		d.Peer = 0
	}
	if d.Tag == api.AnyTag {
		d.Tag = 0
	}
	return isSent(d, n)
}
