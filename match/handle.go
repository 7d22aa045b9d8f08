package match

import "armada/api"

// put sends a packet.
func (w *World) put(from, to int, x packet) { w.ways[from*len(w.processes)+to].add(x) }

// handle handles all packets in the inbox of a process, and returns how many there were.
func (w *World) handle(p int) int {
	all := w.processes[p].inbox
	w.processes[p].inbox = nil
	for _, x := range all {
		w.handlePacket(p, x)
	}
	return len(all)
}

func (w *World) handlePacket(p int, x packet) {
	from := x.source()
	switch x := x.(type) {
	case message:
		w.offer(p, x)
	case credit:
		w.processes[p].credits[from]++
	case cleared:
		w.sendData(p, from, x.req)
	case body:
		w.processes[p].fill(sent{from, x.req}, x.data)
	case part:
		w.processes[p].fillPart(sent{from, x.req}, x)
	}
}

// offer matches a message with the first receive that waits for it, or lets it wait.
func (w *World) offer(p int, m message) {
	q := &w.processes[p]
	req, ok := q.receives.take(func(req int) bool { return q.requests[req].fits(m.about()) })
	if !ok {
		q.messages.add(m)
		return
	}
	w.match(p, req, m)
}

// match gives a message to a receive.
func (w *World) match(p, req int, m message) {
	q := &w.processes[p]
	r := q.requests[req]
	r.status = m.about().status()
	switch m := m.(type) {
	case eager:
		r.get(m.data)
		w.put(p, m.from, credit{sender{p}})
	case ask:
		r.data = make([]byte, r.parts*r.size)
		q.matched[sent{m.from, m.req}] = req
		w.put(p, m.from, cleared{sender{p}, m.req})
	}
}

// get completes a receive that is not in parts.
func (r *request) get(data []byte) {
	r.data = data
	if len(data) > r.room {
		r.data = data[:r.room]
		r.status.Errno = api.ErrCut
	}
	r.complete = true
}

// sendData sends the data of a message that was matched, or those of its parts that are ready.
func (w *World) sendData(p, to, req int) {
	r := w.processes[p].requests[req]
	if r.parts > 0 {
		w.sendParts(p, req)
		return
	}
	w.put(p, to, body{sender{p}, req, r.data})
	r.complete = true
}

// fill gives the data of a message to the receive that was matched with it.
func (q *process) fill(m sent, data []byte) {
	q.requests[q.matched[m]].get(data)
	delete(q.matched, m)
}

// fillPart gives a part of a message to the receive that was matched with it.
func (q *process) fillPart(m sent, x part) {
	r := q.requests[q.matched[m]]
	copy(r.piece(x.number), x.data)
	r.have[x.number] = true
	if r.all() {
		r.complete = true
		delete(q.matched, m)
	}
}

// begin sends a message, or makes a receive, for a request that becomes active.
func (w *World) begin(p, req int) {
	r := w.processes[p].requests[req]
	r.active = true
	switch {
	case r.send:
		r.status = Status{Source: r.peer, Tag: r.tag, Size: len(r.data)}
		w.transmit(p, req)
	case r.peer == api.NoRank:
		r.status = nobody()
		r.complete = true
	default:
		w.await(p, req)
	}
}

// transmit sends a message, with its data if it can go eagerly.
func (w *World) transmit(p, req int) {
	q := &w.processes[p]
	r := q.requests[req]
	e := envelope{from: p, context: r.context, tag: r.tag, size: len(r.data), parts: r.parts}
	switch {
	case r.peer == api.NoRank:
		r.complete = true
	case r.sync || r.parts > 0 || len(r.data) > w.eager || q.credits[r.peer] == 0:
		w.put(p, r.peer, ask{e, req})
	default:
		q.credits[r.peer]--
		w.put(p, r.peer, eager{e, r.data})
		r.complete = true
	}
}

// await matches a receive with the first message that waits for it, or lets it wait.
func (w *World) await(p, req int) {
	q := &w.processes[p]
	r := q.requests[req]
	m, ok := q.messages.take(func(m message) bool { return r.fits(m.about()) })
	if !ok {
		q.receives.add(req)
		return
	}
	w.match(p, req, m)
}
