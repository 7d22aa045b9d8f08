package lang

import "armada/api"

// messageSize is how many bytes a message has: its value, and its number.
const messageSize = 16

// appendWord adds a number as 8 bytes, the highest one first.
func appendWord(b []byte, n uint64) []byte {
	for shift := 56; shift >= 0; shift -= 8 {
		b = append(b, byte(n>>shift))
	}
	return b
}

// wordOf returns the number that 8 bytes are.
func wordOf(b []byte) uint64 {
	var n uint64
	for _, x := range b {
		n = n<<8 | uint64(x)
	}
	return n
}

func (t *turn) doSend() api.Errno {
	r, e := t.send(Deed{Kind: DSend, Sync: t.in.Arg == 1})
	return t.waitFor(r, e)
}

func (t *turn) doRecv() api.Errno {
	r, e := t.receive(Deed{Kind: DRecv}, t.in.Name)
	return t.waitFor(r, e)
}

func (t *turn) doIsend() api.Errno {
	r, e := t.send(Deed{Kind: DIsend, Req: t.begun})
	return t.keep(r, e)
}

func (t *turn) doIrecv() api.Errno {
	r, e := t.receive(Deed{Kind: DIrecv, Req: t.begun}, t.in.Other)
	return t.keep(r, e)
}

func (t *turn) doWait() api.Errno {
	r, active := t.requests[t.in.Name]
	if !active {
		return api.ErrState
	}
	t.deeds = append(t.deeds, Deed{Kind: DWait, Req: r.no})
	return t.waitFor(r, api.OK)
}

// waitFor lets the process wait for a request, if it could be begun.
func (t *turn) waitFor(r request, e api.Errno) api.Errno {
	if e == api.OK {
		t.kind, t.waits = Waiting, r
	}
	return e
}

// keep makes a request active under its name, if it could be begun.
func (t *turn) keep(r request, e api.Errno) api.Errno {
	if e == api.OK {
		t.requests[t.in.Name] = r
		t.begun++
	}
	return e
}

// isActive reports whether the request that the instruction names is active. An instruction without a request names a variable, or nothing.
func (t *turn) isActive() bool {
	_, active := t.requests[t.in.Name]
	return active
}

// send begins to send a message; its deed says how.
func (t *turn) send(d Deed) (request, api.Errno) {
	value, tag, to := t.pop(), t.pop(), t.pop()
	switch {
	case !t.hasRank(to):
		return request{}, api.ErrRank
	case !isTag(tag):
		return request{}, api.ErrTag
	case t.isActive():
		return request{}, api.ErrState
	}
	d.Peer, d.Tag = int(to), int(tag)
	r := request{no: d.Req}
	no := t.sent[d.Peer]
	if t.fed == nil {
		data := appendWord(appendWord(nil, uint64(value)), uint64(no))
		id, e := t.m.world.Send(t.p, d.Peer, 0, d.Tag, data, d.Sync)
		if e != api.OK {
			return request{}, e
		}
		r.id = id
	}
	t.sent[d.Peer]++
	t.deeds = append(t.deeds, d)
	t.events = append(t.events, Event{Kind: ESend, Peer: d.Peer, Tag: d.Tag, No: no, Value: value})
	return r, api.OK
}

// receive begins a receive; its deed says how.
func (t *turn) receive(d Deed, variable string) (request, api.Errno) {
	r := request{no: d.Req, receive: true, variable: variable, wild: t.in.Arg&anySource != 0}
	from, tag := int64(api.AnySource), int64(api.AnyTag)
	anyTag := t.in.Arg&anyTag != 0
	if !anyTag {
		tag = t.pop()
	}
	if !r.wild {
		from = t.pop()
	}
	switch {
	case !r.wild && !t.hasRank(from):
		return request{}, api.ErrRank
	case !anyTag && !isTag(tag):
		return request{}, api.ErrTag
	case t.isActive():
		return request{}, api.ErrState
	}
	d.Peer, d.Tag = int(from), int(tag)
	if r.wild && t.wild < len(t.forced) {
		d.Peer = t.forced[t.wild]
	}
	if t.fed == nil {
		id, e := t.m.world.Recv(t.p, d.Peer, 0, d.Tag, messageSize)
		if e != api.OK {
			return request{}, e
		}
		r.id = id
	}
	if r.wild {
		t.wild++
	}
	t.deeds = append(t.deeds, d)
	return r, api.OK
}

func isTag(value int64) bool { return value >= 0 && value <= api.MaxTag }

// test lets the process go on if the request for which it waits is complete.
func (t *turn) test() bool {
	got, complete := t.outcome()
	if !complete {
		return false
	}
	if t.waits.receive {
		t.variables[t.waits.variable] = got.Value
		t.events = append(t.events, got)
	}
	if t.in.Op == IWait {
		delete(t.requests, t.in.Name)
	}
	t.goOn()
	return true
}

// outcome reports whether the request for which the process waits is complete, and returns the event of a receive.
func (t *turn) outcome() (Event, bool) {
	if t.fed != nil {
		return t.eaten()
	}
	s, data, complete, _ := t.m.world.Test(t.p, t.waits.id)
	if !complete || !t.waits.receive {
		return Event{}, complete
	}
	return Event{Kind: ERecv, Peer: s.Source, Tag: s.Tag, No: int(wordOf(data[8:])), Value: int64(wordOf(data[:8])), Wild: t.waits.wild}, true
}

// eaten does what outcome does for a process that is fed.
func (t *turn) eaten() (Event, bool) {
	if !t.waits.receive {
		return Event{}, true
	}
	if t.ate >= len(t.fed.receives) {
		return Event{}, false
	}
	got := t.fed.receives[t.ate]
	got.Wild = t.waits.wild
	t.ate++
	return got, true
}
