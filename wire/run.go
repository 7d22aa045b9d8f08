package wire

import (
	"cmp"
	"iter"
	"maps"
	"slices"

	"armada/net"
)

// adaptive is the class of hops; routes have the other ones.
const adaptive = 2

// way is what one packet gets in a tick: a channel from a switch to another one, or the way out from the home of a host to the host.
type way struct {
	from, to int
	out      bool
}

// lane is a way in a class. A lane that is not a way out ends in a buffer.
type lane struct {
	way   way
	class int
}

// trip is the pair of a switch and a goal.
type trip struct{ from, goal int }

// wish is the lane that a packet wishes for.
type wish struct {
	packet int
	lane   lane
}

// parcel is a packet on its way.
type parcel struct {
	to    int // a host
	goal  int
	data  []byte
	path  []int      // the last switch of it is the one where the packet is, or to which it was sent
	place *ring[int] // the queue or the buffer with it, or which it enters; nil when it has arrived
	time  int        // when it enters its place
	free  bool
	ahead []lane // the rest of the route to which it is bound
}

// run is a run after some ticks. A packet is put into the ring of its queue or buffer before it enters it: times ascend in a ring, so that only the first packet can be one that is ready.
type run struct {
	config  Config
	draw    func(n int) int
	parcels []parcel
	buffers map[lane]*ring[int]
	last    map[way]int // the time of the last packet that was sent there
	hops    map[trip][]int
	report  Report
}

// begin returns a run before its first tick.
func begin(c Config, l []Packet) *run {
	numbers := generator(c.Seed)
	r := &run{config: c, draw: numbers.draw, buffers: map[lane]*ring[int]{}, last: map[way]int{}, hops: map[trip][]int{}}
	var order []int
	for i, p := range l {
		r.parcels = append(r.parcels, r.parcelOf(p))
		order = append(order, i)
	}
	slices.SortStableFunc(order, func(i, j int) int { return cmp.Compare(l[i].At, l[j].At) })
	queues := map[int]*ring[int]{}
	for _, i := range order {
		q, have := queues[l[i].From]
		if !have {
			q = ringOf[int](len(l))
			queues[l[i].From] = q
		}
		q.put(i)
		r.parcels[i].place = q
	}
	return r
}

// parcelOf returns a packet that has not entered a queue.
func (r *run) parcelOf(p Packet) parcel {
	home := r.home(p.From)
	out := parcel{to: p.To, goal: r.home(p.To), data: slices.Clone(p.Data), path: []int{home}, time: p.At, free: r.config.Adaptive}
	if !out.free {
		out.ahead = r.route(home, out.goal)
	}
	return out
}

func (r *run) home(host int) int {
	home, _ := net.Home(r.config.Net, host)
	return home
}

// route returns the lanes of the route from a switch to a goal.
func (r *run) route(x, goal int) []lane {
	path, _ := net.Route(r.config.Net, x, goal)
	classes, _ := net.Classes(r.config.Net, x, goal)
	var out []lane
	for i, class := range classes {
		out = append(out, lane{way{from: path[i], to: path[i+1]}, class})
	}
	return out
}

// hopsOf returns the hops from a switch to a goal, which net takes long to find.
func (r *run) hopsOf(x, goal int) []int {
	t := trip{x, goal}
	l, have := r.hops[t]
	if !have {
		l, _ = net.Hops(r.config.Net, x, goal)
		r.hops[t] = l
	}
	return l
}

// buffer returns the buffer at the end of a lane.
func (r *run) buffer(l lane) *ring[int] {
	b, have := r.buffers[l]
	if !have {
		b = ringOf[int](r.config.Room)
		r.buffers[l] = b
	}
	return b
}

// tick lets one tick happen.
func (r *run) tick() {
	granted := r.granted()
	for _, w := range granted {
		if w.lane.way.out {
			r.arrive(w.packet)
		} else {
			r.send(w)
		}
	}
	for _, w := range granted { // only where a packet was sent, more places can be taken than before
		if !w.lane.way.out {
			r.report.Most = max(r.report.Most, r.buffer(w.lane).taken)
		}
	}
	r.report.Ticks++
}

// granted returns the wishes that come true in a tick, sorted by their packets.
func (r *run) granted() []wish {
	least := map[way]wish{}
	for w := range r.wishes() {
		if _, have := least[w.lane.way]; !have && r.possible(w) {
			least[w.lane.way] = w
		}
	}
	return slices.SortedFunc(maps.Values(least), func(a, b wish) int { return cmp.Compare(a.packet, b.packet) })
}

// possible reports whether a wish can come true, apart from other wishes.
func (r *run) possible(w wish) bool { return w.lane.way.out || r.buffer(w.lane).free() > 0 }

// wishes yields the wishes of all packets that have one, sorted by their packets.
func (r *run) wishes() iter.Seq[wish] {
	return func(yield func(wish) bool) {
		for i := range r.parcels {
			p := &r.parcels[i]
			ready := p.place != nil && p.time <= r.report.Ticks && p.place.first() == i
			if ready && !yield(wish{i, r.wishOf(p)}) {
				return
			}
		}
	}
}

// wishOf returns the lane that a packet wishes for, which is the first one of a queue or buffer.
func (r *run) wishOf(p *parcel) lane {
	here := p.here()
	switch {
	case here == p.goal:
		return lane{way: way{from: here, to: p.to, out: true}}
	case !p.free:
		return p.ahead[0]
	}
	best, room := lane{}, 0
	for _, to := range r.hopsOf(here, p.goal) {
		hop := lane{way{from: here, to: to}, adaptive}
		if free := r.buffer(hop).free(); free > room {
			best, room = hop, free
		}
	}
	if room == 0 {
		return r.route(here, p.goal)[0]
	}
	return best
}

// here returns the switch of a packet.
func (p *parcel) here() int { return p.path[len(p.path)-1] }

// arrive lets a packet leave the network.
func (r *run) arrive(packet int) {
	p := &r.parcels[packet]
	p.place.drop()
	p.place = nil
	r.report.Arrivals = append(r.report.Arrivals, Arrival{packet, r.report.Ticks, p.path, p.data})
}

// send sends a packet, which remains where it is if noise disturbs it.
func (r *run) send(w wish) {
	p := &r.parcels[w.packet]
	frame := frameOf(p.data)
	disturb(frame, r.config.Noise, r.draw)
	if !Right(frame) {
		r.report.Repetitions++
		return
	}
	r.bind(p, w.lane)
	p.data = frame[:len(frame)-2]
	p.path = append(p.path, w.lane.way.to)
	p.place.drop()
	p.place = r.buffer(w.lane)
	p.place.put(w.packet)
	p.time = max(r.report.Ticks+1+delay(r.config.Jitter, r.draw), r.last[w.lane.way]+1)
	r.last[w.lane.way] = p.time
}

// bind lets a packet that takes a lane be free, or bound to a route behind this lane.
func (r *run) bind(p *parcel, l lane) {
	if l.class == adaptive {
		return
	}
	if p.free {
		p.free = false
		p.ahead = r.route(p.here(), p.goal)
	}
	p.ahead = p.ahead[1:]
}
