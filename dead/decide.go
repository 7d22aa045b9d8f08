package dead

import (
	"sort"

	"armada/api"
	"armada/lang"
)

// Narrow replaces receives from any process by those from the only process that sends what fits.
func Narrow(c [][]lang.Deed) ([][]lang.Deed, bool, api.Errno) {
	if e := Check(c); e != api.OK {
		return nil, false, e
	}
	out := make([][]lang.Deed, len(c))
	for d, l := range c {
		narrowed, ok := narrow(l, messagesTo(c, d))
		if !ok {
			return nil, false, api.OK
		}
		out[d] = narrowed
	}
	return out, true, api.OK
}

// messagesTo returns, for each process, its messages to a process.
func messagesTo(c [][]lang.Deed, d int) [][]lang.Deed {
	out := make([][]lang.Deed, len(c))
	for p, l := range c {
		for _, m := range l {
			if sends(m) && m.Peer == d {
				out[p] = append(out[p], m)
			}
		}
	}
	return out
}

// narrow returns the deeds of a process with a source for each of its receives, if the messages to it leave no choice.
func narrow(l []lang.Deed, messages [][]lang.Deed) ([]lang.Deed, bool) {
	out := append([]lang.Deed(nil), l...)
	for i, d := range out {
		if !isWild(d) {
			continue
		}
		source, ok := onlySource(d, messages)
		if !ok {
			return nil, false
		}
		out[i].Peer = source
	}
	return out, true
}

// onlySource returns the only process with a message that fits a receive, and 0 if there is none; it reports whether there are not two.
func onlySource(receive lang.Deed, messages [][]lang.Deed) (int, bool) {
	only, found := 0, false
search:
	for p, l := range messages {
		for _, m := range l {
			if !fits(m, receive) {
				continue
			}
			if found {
				return 0, false
			}
			only, found = p, true
			continue search // other messages of the same process make no choice
		}
	}
	return only, true
}

// Decide decides whether a case comes to its end.
func Decide(c [][]lang.Deed) (Verdict, api.Errno) {
	narrowed, ok, e := Narrow(c)
	switch {
	case e != api.OK:
		return Verdict{}, e
	case !ok:
		return Verdict{Kind: Unknown}, api.OK
	}
	room := sort.Search(MaxDeeds+1, func(room int) bool { return isEnough(narrowed, room) })
	switch {
	case room == 0:
		return Verdict{Kind: Free}, api.OK
	case room > MaxDeeds: // no process has more messages
		return Verdict{Kind: Stuck}, api.OK
	}
	return Verdict{Kind: Bound, Room: room}, api.OK
}

// isEnough reports whether a case comes to its end with some room.
func isEnough(c [][]lang.Deed, room int) bool {
	s := start(c, room)
	s.finish()
	return len(s.blocks()) == 0
}
