package match

import (
	"slices"

	"armada/api"
)

// terms say for what a request was made.
type terms struct {
	send, sync         bool
	persistent         bool
	peer, context, tag int
	room               int
	parts, size        int // how many parts, and their size
}

// request is a send or a receive. One that is not active has its terms alone.
type request struct {
	terms
	active   bool
	complete bool
	status   Status
	data     []byte
	have     []bool // by part: whether it was given, or has come
	cleared  bool   // whether parts are sent as soon as they are given
}

func (r *request) copied() *request {
	c := *r
	c.data = slices.Clone(r.data)
	c.have = slices.Clone(r.have)
	return &c
}

// fits reports whether a receive with these terms would get a message.
func (t terms) fits(e envelope) bool {
	switch {
	case t.context != e.context || t.parts != e.parts:
		return false
	case t.peer != e.from && t.peer != api.AnySource:
		return false
	case t.tag != e.tag && t.tag != api.AnyTag:
		return false
	}
	return t.parts == 0 || t.parts*t.size == e.size
}

// address examines a process and the terms by which its messages are found. Only wild ones have any source and any tag.
func (w *World) address(p int, t terms, wild bool) api.Errno {
	_, e := w.process(p)
	switch {
	case e != api.OK:
		return e
	case !w.has(t.peer) && t.peer != api.NoRank && !(wild && t.peer == api.AnySource):
		return api.ErrRank
	case t.context < 0 || t.context > api.MaxTag:
		return api.ErrRange
	case (t.tag < 0 || t.tag > api.MaxTag) && !(wild && t.tag == api.AnyTag):
		return api.ErrTag
	}
	return api.OK
}

// full reports whether a process has as many requests as it can have.
func (w *World) full(p int) bool { return len(w.processes[p].requests) >= MaxRequests }

// open makes a request of a process, and returns its number.
func (w *World) open(p int, r request) int {
	w.handle(p)
	q := &w.processes[p]
	q.made++
	q.requests[q.made] = &r
	if !r.persistent {
		w.begin(p, q.made)
	}
	return q.made
}

// Send begins to send a message.
func (w *World) Send(p, dst, context, tag int, data []byte, sync bool) (int, api.Errno) {
	t := terms{send: true, sync: sync, peer: dst, context: context, tag: tag}
	e := w.address(p, t, false)
	switch {
	case e != api.OK:
		return 0, e
	case len(data) > api.MaxMessage:
		return 0, api.ErrLong
	case w.full(p):
		return 0, api.ErrMany
	}
	return w.open(p, request{terms: t, data: slices.Clone(data)}), api.OK
}

// Recv begins to receive a message.
func (w *World) Recv(p, src, context, tag, room int) (int, api.Errno) {
	t := terms{peer: src, context: context, tag: tag, room: room}
	e := w.address(p, t, true)
	switch {
	case e != api.OK:
		return 0, e
	case room < 0 || room > api.MaxMessage:
		return 0, api.ErrRange
	case w.full(p):
		return 0, api.ErrMany
	}
	return w.open(p, request{terms: t}), api.OK
}

// Persist makes a request that can be started again and again.
func (w *World) Persist(p int, send bool, peer, context, tag, room int, sync bool) (int, api.Errno) {
	t := terms{send: send, sync: sync, persistent: true, peer: peer, context: context, tag: tag, room: room}
	e := w.address(p, t, !send)
	switch {
	case e != api.OK:
		return 0, e
	case room < 0 || room > api.MaxMessage:
		return 0, api.ErrRange
	case send && room != 0 || !send && sync:
		return 0, api.ErrArg
	case w.full(p):
		return 0, api.ErrMany
	}
	return w.open(p, request{terms: t}), api.OK
}

// find returns a request of a process.
func (w *World) find(p, req int) (*request, api.Errno) {
	q, e := w.process(p)
	if e != api.OK {
		return nil, e
	}
	r, ok := q.requests[req]
	if !ok {
		return nil, api.ErrNone
	}
	return r, api.OK
}

// resting returns a persistent request that is not active.
func (w *World) resting(p, req int) (*request, api.Errno) {
	r, e := w.find(p, req)
	switch {
	case e != api.OK:
		return nil, e
	case !r.persistent:
		return nil, api.ErrNone
	case r.active:
		return nil, api.ErrState
	}
	return r, api.OK
}

// Start starts a request that was made by Persist.
func (w *World) Start(p, req int, data []byte) api.Errno {
	r, e := w.resting(p, req)
	switch {
	case e != api.OK:
		return e
	case !r.send && len(data) > 0:
		return api.ErrArg
	case len(data) > api.MaxMessage:
		return api.ErrLong
	}
	w.handle(p)
	r.data = slices.Clone(data)
	w.begin(p, req)
	return api.OK
}

// Free removes a request that was made by Persist.
func (w *World) Free(p, req int) api.Errno {
	if _, e := w.resting(p, req); e != api.OK {
		return e
	}
	w.handle(p)
	delete(w.processes[p].requests, req)
	return api.OK
}

// running returns a request that is active.
func (w *World) running(p, req int) (*request, api.Errno) {
	r, e := w.find(p, req)
	switch {
	case e != api.OK:
		return nil, e
	case !r.active:
		return nil, api.ErrState
	}
	return r, api.OK
}

// end removes a request that is active, or lets a persistent one rest.
func (w *World) end(p, req int) {
	r := w.processes[p].requests[req]
	if !r.persistent {
		delete(w.processes[p].requests, req)
		return
	}
	*r = request{terms: r.terms}
}

// Test reports whether a request is complete, and what became of it.
func (w *World) Test(p, req int) (Status, []byte, bool, api.Errno) {
	r, e := w.running(p, req)
	if e != api.OK {
		return Status{}, nil, false, e
	}
	w.handle(p)
	if !r.complete {
		return Status{}, nil, false, api.OK
	}
	status := r.status
	var data []byte
	if !r.send {
		data = slices.Clone(r.data)
	}
	w.end(p, req)
	return status, data, true, api.OK
}

// Cancel removes a receive that has not been matched.
func (w *World) Cancel(p, req int) (bool, api.Errno) {
	if _, e := w.running(p, req); e != api.OK {
		return false, e
	}
	w.handle(p)
	_, ok := w.processes[p].receives.take(func(other int) bool { return other == req })
	if ok {
		w.end(p, req)
	}
	return ok, api.OK
}

// Probe reports whether a message is there that a receive would get.
func (w *World) Probe(p, src, context, tag int) (Status, bool, api.Errno) {
	t := terms{peer: src, context: context, tag: tag}
	if e := w.address(p, t, true); e != api.OK {
		return Status{}, false, e
	}
	w.handle(p)
	if src == api.NoRank {
		return nobody(), true, api.OK
	}
	for _, m := range w.processes[p].messages {
		if t.fits(m.about()) {
			return m.about().status(), true, api.OK
		}
	}
	return Status{}, false, api.OK
}

// nobody is the status of a receive from no process.
func nobody() Status { return Status{Source: api.NoRank, Tag: api.AnyTag} }
