package match

import (
	"slices"

	"armada/api"
)

// maxParts is how many parts a message has at most.
const maxParts = 64

// Parts begins to send or to receive a message in parts.
func (w *World) Parts(p int, send bool, peer, context, tag, parts, size int) (int, api.Errno) {
	t := terms{send: send, peer: peer, context: context, tag: tag, parts: parts, size: size}
	e := w.address(p, t, false)
	switch {
	case e != api.OK:
		return 0, e
	case parts < 1 || parts > maxParts:
		return 0, api.ErrRange
	case size < 0 || size > api.MaxMessage || parts*size > api.MaxMessage:
		return 0, api.ErrRange
	case w.full(p):
		return 0, api.ErrMany
	}
	r := request{terms: t, have: make([]bool, parts)}
	if send {
		r.data = make([]byte, parts*size)
	}
	return w.open(p, r), api.OK
}

// inParts returns a send, or a receive, in parts, which has a part i.
func (w *World) inParts(p, req int, send bool, i int) (*request, api.Errno) {
	r, e := w.find(p, req)
	switch {
	case e != api.OK:
		return nil, e
	case r.parts == 0 || r.send != send:
		return nil, api.ErrState
	case i < 0 || i >= r.parts:
		return nil, api.ErrRange
	}
	return r, api.OK
}

// piece returns the bytes of a part, which are the request's own memory.
func (r *request) piece(i int) []byte { return r.data[i*r.size : (i+1)*r.size] }

// all reports whether all parts were given, or have come.
func (r *request) all() bool { return !slices.Contains(r.have, false) }

// Ready gives a part of a message that is sent in parts.
func (w *World) Ready(p, req, i int, data []byte) api.Errno {
	r, e := w.inParts(p, req, true, i)
	switch {
	case e != api.OK:
		return e
	case r.have[i]:
		return api.ErrHave
	case len(data) != r.size:
		return api.ErrShape
	}
	w.handle(p)
	r.have[i] = true
	copy(r.piece(i), data)
	if r.cleared {
		w.sendPart(p, req, i)
	}
	return api.OK
}

// sendPart puts a part that is ready on its way.
func (w *World) sendPart(p, req, i int) {
	r := w.processes[p].requests[req]
	w.put(p, r.peer, part{sender{p}, req, i, slices.Clone(r.piece(i))})
	r.complete = r.all()
}

// sendParts puts all parts that are ready on their way.
func (w *World) sendParts(p, req int) {
	r := w.processes[p].requests[req]
	r.cleared = true
	for i, ready := range r.have {
		if ready {
			w.sendPart(p, req, i)
		}
	}
}

// Arrived returns a part of a message that is received in parts, if it has arrived.
func (w *World) Arrived(p, req, i int) ([]byte, bool, api.Errno) {
	r, e := w.inParts(p, req, false, i)
	if e != api.OK {
		return nil, false, e
	}
	w.handle(p)
	if !r.have[i] {
		return nil, false, api.OK
	}
	return slices.Clone(r.piece(i)), true, api.OK
}
