package match_test

import (
	"slices"
	"testing"

	"armada/api"
	"armada/match"
)

// model is a world that follows the chapter word by word: its packets are of one type, and it searches all that it looks for.
type model struct {
	n, eager int
	credits  [][]int
	channels [][][]mpacket // by source and destination
	inboxes  [][]mpacket
	messages [][]mpacket // that wait: Eager or Ask
	receives [][]*mrequest
	requests [][]*mrequest
	made     []int
}

type menvelope struct{ source, context, tag, size, parts int }

type mpacket struct {
	kind     string
	from     int
	envelope menvelope
	req      int
	part     int
	data     []byte
}

type mrequest struct {
	number                              int
	send, sync, persistent, active      bool
	peer, context, tag, room, parts, of int
	complete, cleared                   bool
	status                              match.Status
	data                                []byte
	pieces                              [][]byte // nil if a part is missing
	source, sourceReq                   int      // with what a receive was matched, if it is not complete
}

func newModel(n, eager, credits int) *model {
	m := &model{n: n, eager: eager, inboxes: make([][]mpacket, n), messages: make([][]mpacket, n), receives: make([][]*mrequest, n), requests: make([][]*mrequest, n), made: make([]int, n)}
	for range n {
		m.credits = append(m.credits, slices.Repeat([]int{credits}, n))
		m.channels = append(m.channels, make([][]mpacket, n))
	}
	return m
}

// copied returns an independent model.
func (m *model) copied() *model {
	c := newModel(m.n, m.eager, 0)
	for p := range m.n {
		c.made[p] = m.made[p]
		c.credits[p] = slices.Clone(m.credits[p])
		c.inboxes[p] = slices.Clone(m.inboxes[p])
		c.messages[p] = slices.Clone(m.messages[p])
		for q := range m.n {
			c.channels[p][q] = slices.Clone(m.channels[p][q])
		}
		for _, r := range m.requests[p] {
			n := *r
			n.pieces = slices.Clone(r.pieces)
			c.requests[p] = append(c.requests[p], &n)
		}
		for _, r := range m.receives[p] {
			c.receives[p] = append(c.receives[p], c.request(p, r.number))
		}
	}
	return c
}

func (m *model) request(p, number int) *mrequest {
	for _, r := range m.requests[p] {
		if r.number == number {
			return r
		}
	}
	return nil
}

func (m *model) is(p int) bool { return 0 <= p && p < m.n }

// refuse returns the error of a call, in the order of the promises.
func (m *model) refuse(c call) api.Errno {
	switch c.name {
	case "Quiet":
		return api.OK
	case "Deliver", "Under":
		if !m.is(c.p) || !m.is(c.peer) {
			return api.ErrRank
		}
		return api.OK
	}
	if !m.is(c.p) {
		return api.ErrRank
	}
	switch c.name {
	case "Send", "Recv", "Persist", "Parts", "Probe":
		if e := m.refuseTerms(c); e != api.OK {
			return e
		}
		if c.name != "Probe" && len(m.requests[c.p]) == 256 {
			return api.ErrMany
		}
	case "Start", "Free", "Ready", "Arrived", "Test", "Cancel":
		return m.refuseRequest(c, m.request(c.p, c.req))
	}
	return api.OK
}

// refuseTerms returns the error of a call that names a peer, a context and a tag.
func (m *model) refuseTerms(c call) api.Errno {
	receive := c.name == "Recv" || c.name == "Probe" || c.name == "Persist" && !c.send
	long := c.room < 0 || c.room > 4096
	switch {
	case receive && !m.is(c.peer) && c.peer != -1 && c.peer != -2:
		return api.ErrRank
	case !receive && !m.is(c.peer) && c.peer != -2:
		return api.ErrRank
	case c.context < 0 || c.context > 1048576:
		return api.ErrRange
	case receive && (c.tag < -1 || c.tag > 1048576):
		return api.ErrTag
	case !receive && (c.tag < 0 || c.tag > 1048576):
		return api.ErrTag
	case (c.name == "Recv" || c.name == "Persist") && long:
		return api.ErrRange
	case c.name == "Persist" && c.send && c.room != 0:
		return api.ErrArg
	case c.name == "Persist" && !c.send && c.sync:
		return api.ErrArg
	case c.name == "Send" && len(c.data) > 4096:
		return api.ErrLong
	case c.name == "Parts" && (c.parts < 1 || c.parts > 64):
		return api.ErrRange
	case c.name == "Parts" && (c.size < 0 || c.size > 4096):
		return api.ErrRange
	case c.name == "Parts" && c.parts*c.size > 4096:
		return api.ErrRange
	}
	return api.OK
}

// refuseRequest returns the error of a call that names a request.
func (m *model) refuseRequest(c call, r *mrequest) api.Errno {
	if r == nil {
		return api.ErrNone
	}
	switch c.name {
	case "Start", "Free":
		switch {
		case !r.persistent:
			return api.ErrNone
		case r.active:
			return api.ErrState
		case c.name == "Start" && !r.send && len(c.data) > 0:
			return api.ErrArg
		case c.name == "Start" && len(c.data) > 4096:
			return api.ErrLong
		}
	case "Ready", "Arrived":
		switch {
		case r.parts == 0 || r.send != (c.name == "Ready"):
			return api.ErrState
		case c.i < 0 || c.i >= r.parts:
			return api.ErrRange
		case c.name == "Ready" && r.pieces[c.i] != nil:
			return api.ErrHave
		case c.name == "Ready" && len(c.data) != r.of:
			return api.ErrShape
		}
	case "Test", "Cancel":
		if r.persistent && !r.active {
			return api.ErrState
		}
	}
	return api.OK
}

// do does what a call does.
func (m *model) do(c call) (r result) {
	if r.e = m.refuse(c); r.e != api.OK {
		return r
	}
	if slices.Contains(handling(), c.name) {
		n := m.handle(c.p)
		if c.name == "Progress" {
			r.n = n
		}
	}
	switch c.name {
	case "Send", "Recv", "Persist", "Parts":
		r.n = m.make(c)
	case "Start":
		q := m.request(c.p, c.req)
		q.data = slices.Clone(c.data)
		m.start(c.p, q)
	case "Free":
		m.remove(c.p, m.request(c.p, c.req))
	case "Ready":
		m.ready(c)
	case "Arrived":
		r.data = m.request(c.p, c.req).pieces[c.i]
		r.ok = r.data != nil
	case "Test":
		if q := m.request(c.p, c.req); q.complete {
			r.status, r.ok = q.status, true
			if !q.send {
				r.data = q.all()
			}
			m.remove(c.p, q)
		}
	case "Cancel":
		q := m.request(c.p, c.req)
		if i := slices.Index(m.receives[c.p], q); i >= 0 {
			m.receives[c.p] = slices.Delete(m.receives[c.p], i, i+1)
			m.remove(c.p, q)
			r.ok = true
		}
	case "Probe":
		r.status, r.ok = m.probe(c)
	case "Deliver":
		r.ok = m.deliver(c.p, c.peer)
	case "Under":
		r.n = len(m.channels[c.p][c.peer])
	case "Lists":
		r.n, r.messages, r.requests = len(m.receives[c.p]), len(m.messages[c.p]), len(m.requests[c.p])
	case "Quiet":
		r.ok = m.quiet()
	}
	return r
}

// all returns the data of a receive.
func (r *mrequest) all() []byte {
	if r.parts > 0 {
		return slices.Concat(r.pieces...)
	}
	return r.data
}

// make makes a request, and returns its number.
func (m *model) make(c call) int {
	m.made[c.p]++
	r := &mrequest{number: m.made[c.p], send: c.send, sync: c.sync, persistent: c.name == "Persist", peer: c.peer, context: c.context, tag: c.tag, room: c.room}
	switch c.name {
	case "Send":
		r.send, r.data, r.room = true, slices.Clone(c.data), 0
	case "Recv":
		r.send, r.sync = false, false
	case "Parts":
		r.parts, r.of, r.pieces = c.parts, c.size, make([][]byte, c.parts)
	}
	m.requests[c.p] = append(m.requests[c.p], r)
	if !r.persistent {
		m.start(c.p, r)
	}
	return r.number
}

// remove removes a request, or makes a persistent one inactive; Free has to remove one that is inactive.
func (m *model) remove(p int, r *mrequest) {
	if r.persistent && r.active {
		r.active, r.complete, r.data = false, false, nil
		return
	}
	m.requests[p] = slices.DeleteFunc(m.requests[p], func(q *mrequest) bool { return q == r })
}

// start sends a message, or makes a receive.
func (m *model) start(p int, r *mrequest) {
	r.active = true
	if !r.send {
		m.receive(p, r)
		return
	}
	size := len(r.data)
	if r.parts > 0 {
		size = r.parts * r.of
	}
	r.status = match.Status{Source: r.peer, Tag: r.tag, Size: size}
	if r.peer == api.NoRank {
		r.complete = true
		return
	}
	x := mpacket{from: p, envelope: menvelope{p, r.context, r.tag, size, r.parts}}
	if !r.sync && r.parts == 0 && size <= m.eager && m.credits[p][r.peer] > 0 {
		m.credits[p][r.peer]--
		x.kind, x.data = "Eager", r.data
		r.complete = true
	} else {
		x.kind, x.req = "Ask", r.number
	}
	m.put(p, r.peer, x)
}

func (m *model) put(p, d int, x mpacket) { m.channels[p][d] = append(m.channels[p][d], x) }

// receive makes a receive.
func (m *model) receive(p int, r *mrequest) {
	if r.peer == api.NoRank {
		r.complete, r.status = true, match.Status{Source: -2, Tag: -1}
		return
	}
	for i, x := range m.messages[p] {
		if fits(x.envelope, r) {
			m.messages[p] = slices.Delete(slices.Clone(m.messages[p]), i, i+1)
			m.match(p, x, r)
			return
		}
	}
	m.receives[p] = append(m.receives[p], r)
}

func fits(e menvelope, r *mrequest) bool {
	source := r.peer == e.source || r.peer == api.AnySource
	tag := r.tag == e.tag || r.tag == api.AnyTag
	parts := r.parts == e.parts && (e.parts == 0 || e.size == r.parts*r.of)
	return r.context == e.context && source && tag && parts
}

func (m *model) match(p int, x mpacket, r *mrequest) {
	r.status = match.Status{Source: x.envelope.source, Tag: x.envelope.tag, Size: x.envelope.size}
	if x.kind == "Eager" {
		r.get(x.data)
		m.put(p, x.envelope.source, mpacket{kind: "Credit", from: p})
		return
	}
	r.source, r.sourceReq = x.envelope.source, x.req
	m.put(p, x.envelope.source, mpacket{kind: "Clear", from: p, req: x.req})
}

// get gives data to a receive.
func (r *mrequest) get(data []byte) {
	r.data = slices.Clone(data)
	if len(data) > r.room {
		r.data = r.data[:r.room]
		r.status.Errno = api.ErrCut
	}
	r.complete, r.sourceReq = true, 0
}

// handle handles all packets in the inbox of p.
func (m *model) handle(p int) int {
	n := len(m.inboxes[p])
	for _, x := range m.inboxes[p] {
		m.handlePacket(p, x)
	}
	m.inboxes[p] = nil
	return n
}

func (m *model) handlePacket(p int, x mpacket) {
	switch x.kind {
	case "Eager", "Ask":
		for i, r := range m.receives[p] {
			if fits(x.envelope, r) {
				m.receives[p] = slices.Delete(slices.Clone(m.receives[p]), i, i+1)
				m.match(p, x, r)
				return
			}
		}
		m.messages[p] = append(m.messages[p], x)
	case "Credit":
		m.credits[p][x.from]++
	case "Clear":
		m.clear(p, x.from, m.request(p, x.req))
	case "Body":
		m.matched(p, x).get(x.data)
	case "Part":
		r := m.matched(p, x)
		r.pieces[x.part] = append([]byte{}, x.data...)
		if !slices.ContainsFunc(r.pieces, func(l []byte) bool { return l == nil }) {
			r.complete, r.sourceReq = true, 0
		}
	}
}

// matched returns the receive that was matched with the message to which a packet belongs.
func (m *model) matched(p int, x mpacket) *mrequest {
	for _, r := range m.requests[p] {
		if !r.send && r.source == x.from && r.sourceReq == x.req {
			return r
		}
	}
	return nil
}

// clear lets a message that was matched be sent.
func (m *model) clear(p, s int, r *mrequest) {
	if r.parts == 0 {
		m.put(p, s, mpacket{kind: "Body", from: p, req: r.number, data: r.data})
		r.complete = true
		return
	}
	r.cleared = true
	for i := range r.pieces {
		m.putPart(p, r, i)
	}
}

// putPart sends a part, if it is ready and its message is cleared.
func (m *model) putPart(p int, r *mrequest, i int) {
	if !r.cleared || r.pieces[i] == nil {
		return
	}
	m.put(p, r.peer, mpacket{kind: "Part", from: p, req: r.number, part: i, data: r.pieces[i]})
	if !slices.ContainsFunc(r.pieces, func(l []byte) bool { return l == nil }) {
		r.complete = true
	}
}

func (m *model) ready(c call) {
	r := m.request(c.p, c.req)
	r.pieces[c.i] = append([]byte{}, c.data...)
	m.putPart(c.p, r, c.i)
}

func (m *model) probe(c call) (match.Status, bool) {
	if c.peer == api.NoRank {
		return match.Status{Source: -2, Tag: -1}, true
	}
	r := &mrequest{peer: c.peer, context: c.context, tag: c.tag, room: 4096}
	for _, x := range m.messages[c.p] {
		if fits(x.envelope, r) {
			return match.Status{Source: x.envelope.source, Tag: x.envelope.tag, Size: x.envelope.size}, true
		}
	}
	return match.Status{}, false
}

func (m *model) deliver(p, d int) bool {
	l := m.channels[p][d]
	if len(l) == 0 {
		return false
	}
	m.inboxes[d] = append(m.inboxes[d], l[0])
	m.channels[p][d] = l[1:]
	return true
}

func (m *model) quiet() bool {
	for p := range m.n {
		if len(m.inboxes[p]) > 0 {
			return false
		}
		for d := range m.n {
			if len(m.channels[p][d]) > 0 {
				return false
			}
		}
	}
	return true
}

// pair is a world and its model.
type pair struct {
	w *match.World
	m *model
}

// check fails unless a call has the same result in both, and all lists are the same then.
func (x pair) check(t *testing.T, c call) result {
	t.Helper()
	got, want := do(x.w, c), x.m.do(c)
	if !same(got, want) {
		t.Fatalf("%+v: %+v, not %+v", c, got, want)
	}
	return got
}

// compare fails unless all that both show without a call of a process is the same.
func (x pair) compare(t *testing.T) {
	t.Helper()
	x.check(t, call{name: "Quiet"})
	for p := range x.m.n {
		x.check(t, call{name: "Lists", p: p})
		for q := range x.m.n {
			x.check(t, call{name: "Under", p: p, peer: q})
		}
	}
}

// anyCall returns a call, mostly with arguments that are valid.
func (d *dice) anyCall(x pair) call {
	c := call{p: d.roll(x.m.n), peer: d.roll(x.m.n), context: d.roll(2) * d.roll(2), tag: d.roll(3)}
	c.name = pick(d, "Send", "Send", "Send", "Recv", "Recv", "Recv", "Persist", "Start", "Start", "Start", "Free", "Parts", "Parts", "Ready", "Ready", "Ready", "Ready", "Arrived", "Test", "Test", "Test", "Test", "Cancel", "Probe", "Progress", "Deliver", "Deliver", "Deliver", "Deliver", "Deliver", "Deliver")
	c.send, c.sync = d.often(2), d.often(4)
	wild := c.name == "Recv" || c.name == "Probe" || c.name == "Persist" && !c.send
	if wild && d.often(3) {
		c.peer = api.AnySource
	}
	if wild && d.often(3) {
		c.tag = api.AnyTag
	}
	if d.often(20) && c.name != "Deliver" {
		c.peer = api.NoRank
	}
	c.room = d.roll(7)
	if c.name == "Persist" {
		c.room, c.sync = pick(d, c.room, 0), pick(d, c.sync, false)
	}
	c.parts, c.size = 1+d.roll(3), d.roll(3)
	d.nameRequest(x, &c)
	return c
}

// nameRequest chooses the request of a call, mostly one that is there and of the right kind, and data that fit.
func (d *dice) nameRequest(x pair, c *call) {
	c.data = d.bytes(d.roll(7))
	var l []*mrequest
	for _, r := range x.m.requests[c.p] {
		right := true
		switch c.name {
		case "Start", "Free":
			right = r.persistent
		case "Ready":
			right = r.parts > 0 && r.send && !r.complete
		case "Arrived":
			right = r.parts > 0 && !r.send
		}
		if right {
			l = append(l, r)
		}
	}
	c.i = d.roll(4)
	if len(l) == 0 || d.often(20) {
		c.req = d.roll(x.m.made[c.p] + 2)
		return
	}
	r := pick(d, l...)
	c.req = r.number
	if r.parts > 0 {
		c.i = d.roll(r.parts)
		c.data = d.bytes(r.of)
	}
	if c.name == "Start" && !r.send {
		c.data = nil
	}
}

// P6.1 to P6.8: in all worlds, and in copies of them that go on, calls have the results of the model.
func TestModel(t *testing.T) {
	for seed := range 300 {
		d := dice(seed)
		n, limit, credits := 1+d.roll(4), d.roll(7), d.roll(4)
		all := []pair{{world(t, n, limit, credits), newModel(n, limit, credits)}}
		for k := range 1500 {
			x := pick(&d, all...)
			c := d.anyCall(x)
			x.check(t, c)
			if k%10 == 0 {
				x.compare(t)
			}
			if k%300 == 99 {
				all = append(all, pair{x.w.Copy(), x.m.copied()})
			}
		}
		for _, x := range all {
			x.compare(t)
		}
	}
}
