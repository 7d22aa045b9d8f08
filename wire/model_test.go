package wire_test

import (
	"cmp"
	"slices"

	"armada/net"
	"armada/wire"
)

// modelSum returns the sum of bytes as the rest of a division of polynomials: the bits of the bytes, and 16 more, of which the first 16 are inverted, are divided by x^16 + x^12 + x^5 + 1.
func modelSum(b []byte) uint16 {
	var bits []bool
	for _, x := range append(slices.Clone(b), 0, 0) {
		for i := 7; i >= 0; i-- {
			bits = append(bits, x>>i&1 == 1)
		}
	}
	for i := range 16 {
		bits[i] = !bits[i]
	}
	for i := range len(bits) - 16 {
		if bits[i] {
			for _, power := range list(16, 12, 5, 0) {
				bits[i+16-power] = !bits[i+16-power]
			}
		}
	}
	sum := uint16(0)
	for _, bit := range bits[len(bits)-16:] {
		sum *= 2
		if bit {
			sum++
		}
	}
	return sum
}

func modelFrame(b []byte) []byte {
	return append(slices.Clone(b), byte(modelSum(b)/256), byte(modelSum(b)%256))
}

// modelHop is a channel with a class.
type modelHop struct{ from, to, class int }

// modelPacket is a packet of the model.
type modelPacket struct {
	number int
	packet wire.Packet
	goal   int
	path   []int
	bound  []modelHop
	free   bool
}

// flight is a packet that was sent to a buffer and did not enter it.
type flight struct {
	p    *modelPacket
	to   modelHop
	time int
}

// modelWish is the wish of the first packet of a queue, or else of a buffer.
type modelWish struct {
	p     *modelPacket
	leave bool
	hop   modelHop
	queue bool
	from  modelHop
}

// model is a run as the chapter defines it: with all buffers, and with the packets that fly to them.
type model struct {
	c       wire.Config
	g       uint64
	all     []*modelPacket
	queues  [][]*modelPacket
	buffers map[modelHop][]*modelPacket
	order   []modelHop // of the buffers, so that they are looked at in the same order each time
	flights []flight
	last    map[[2]int]int
	report  wire.Report
	stuck   bool // in some tick packets were there, but none was sent and none left
}

func modelOf(c wire.Config, l []wire.Packet) *model {
	m := &model{c: c, g: c.Seed, queues: make([][]*modelPacket, hostsOf(c.Net)), buffers: map[modelHop][]*modelPacket{}, last: map[[2]int]int{}}
	links, _ := net.Links(c.Net)
	for _, link := range links {
		for class := range 3 {
			m.order = append(m.order, modelHop{link.A, link.B, class}, modelHop{link.B, link.A, class})
		}
	}
	for i, p := range l {
		home, _ := net.Home(c.Net, p.From)
		goal, _ := net.Home(c.Net, p.To)
		p.Data = slices.Clone(p.Data)
		one := &modelPacket{number: i, packet: p, goal: goal, path: list(home), free: c.Adaptive}
		if !c.Adaptive {
			one.bound = m.route(home, goal)
		}
		m.all = append(m.all, one)
	}
	return m
}

func (m *model) route(x, goal int) []modelHop {
	path, _ := net.Route(m.c.Net, x, goal)
	classes, _ := net.Classes(m.c.Net, x, goal)
	var out []modelHop
	for i, class := range classes {
		out = append(out, modelHop{path[i], path[i+1], class})
	}
	return out
}

func (m *model) draw(n int) int {
	m.g = 6364136223846793005*m.g + 1442695040888963407
	return int(m.g / (1 << 33) % uint64(n))
}

// places returns how many places of a buffer are taken.
func (m *model) places(b modelHop) int {
	n := len(m.buffers[b])
	for _, f := range m.flights {
		if f.to == b {
			n++
		}
	}
	return n
}

// run runs the model.
func (m *model) run(ticks int) wire.Report {
	for t := 0; t < ticks && len(m.report.Arrivals) < len(m.all); t++ {
		m.tick(t)
		m.report.Ticks++
	}
	return m.report
}

func (m *model) tick(t int) {
	m.enter(t)
	wishes := m.wishes()
	var leaving, sent []modelWish
	for _, w := range wishes {
		if !m.fulfilled(w, wishes) {
			continue
		}
		if w.leave {
			leaving = append(leaving, w)
		} else {
			sent = append(sent, w)
		}
	}
	byNumber := func(a, b modelWish) int { return cmp.Compare(a.p.number, b.p.number) }
	slices.SortFunc(leaving, byNumber)
	slices.SortFunc(sent, byNumber)
	for _, w := range leaving {
		m.take(w)
		m.report.Arrivals = append(m.report.Arrivals, wire.Arrival{Packet: w.p.number, Tick: t, Path: w.p.path, Data: w.p.packet.Data})
	}
	for _, w := range sent {
		m.send(t, w)
	}
	for _, b := range m.order {
		m.report.Most = max(m.report.Most, m.places(b))
	}
	if len(wishes) > 0 && len(leaving)+len(sent) == 0 {
		m.stuck = true
	}
}

// enter lets packets enter their buffers and queues.
func (m *model) enter(t int) {
	var rest []flight
	for _, f := range m.flights {
		if f.time == t {
			m.buffers[f.to] = append(m.buffers[f.to], f.p)
		} else {
			rest = append(rest, f)
		}
	}
	m.flights = rest
	for _, p := range m.all {
		if p.packet.At == t {
			m.queues[p.packet.From] = append(m.queues[p.packet.From], p)
		}
	}
}

func (m *model) wishes() []modelWish {
	var out []modelWish
	for _, q := range m.queues {
		if len(q) > 0 {
			out = append(out, m.wish(modelWish{p: q[0], queue: true}))
		}
	}
	for _, b := range m.order {
		if l := m.buffers[b]; len(l) > 0 {
			out = append(out, m.wish(modelWish{p: l[0], from: b}))
		}
	}
	return out
}

// wish completes a wish.
func (m *model) wish(w modelWish) modelWish {
	p := w.p
	x := p.path[len(p.path)-1]
	if x == p.goal {
		w.leave = true
		return w
	}
	if !p.free {
		w.hop = p.bound[0]
		return w
	}
	w.hop = m.route(x, p.goal)[0]
	hops, _ := net.Hops(m.c.Net, x, p.goal)
	for free := 1; free <= m.c.Room; free++ {
		for _, y := range slices.Backward(hops) {
			if m.c.Room-m.places(modelHop{x, y, 2}) == free {
				w.hop = modelHop{x, y, 2} // a later one has more free places, or is less
			}
		}
	}
	return w
}

// fulfilled reports whether a wish is possible and has the least number of all that are, for the same channel or host.
func (m *model) fulfilled(w modelWish, wishes []modelWish) bool {
	possible := func(w modelWish) bool { return w.leave || m.places(w.hop) < m.c.Room }
	if !possible(w) {
		return false
	}
	for _, v := range wishes {
		same := v.leave && w.leave && v.p.packet.To == w.p.packet.To
		if !v.leave && !w.leave {
			same = v.hop.from == w.hop.from && v.hop.to == w.hop.to
		}
		if same && possible(v) && v.p.number < w.p.number {
			return false
		}
	}
	return true
}

// take takes a packet from its queue or buffer.
func (m *model) take(w modelWish) {
	if w.queue {
		m.queues[w.p.packet.From] = m.queues[w.p.packet.From][1:]
	} else {
		m.buffers[w.from] = m.buffers[w.from][1:]
	}
}

func (m *model) send(t int, w modelWish) {
	frame := modelFrame(w.p.packet.Data)
	if m.c.Noise > 0 && m.draw(1000) < m.c.Noise {
		for n := m.draw(3) + 1; n > 0; n-- {
			i := m.draw(len(frame) * 8)
			frame[i/8] ^= []byte{1, 2, 4, 8, 16, 32, 64, 128}[i%8]
		}
	}
	data := frame[:len(frame)-2]
	if !slices.Equal(modelFrame(data), frame) {
		m.report.Repetitions++
		return
	}
	m.take(w)
	w.p.packet.Data = data
	jitter := 0
	if m.c.Jitter > 0 {
		jitter = m.draw(m.c.Jitter + 1)
	}
	time := t + 1 + jitter
	channel := [2]int{w.hop.from, w.hop.to}
	if before, have := m.last[channel]; have && before >= time {
		time = before + 1
	}
	m.last[channel] = time
	if w.hop.class != 2 {
		if w.p.free {
			w.p.free = false
			w.p.bound = m.route(w.hop.from, w.p.goal)
		}
		w.p.bound = w.p.bound[1:]
	}
	w.p.path = append(w.p.path, w.hop.to)
	m.flights = append(m.flights, flight{w.p, w.hop, time})
}
