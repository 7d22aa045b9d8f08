package match_test

import (
	"testing"

	"armada/api"
	"armada/match"
)

// fault is what is wrong with a call, and the error that it causes.
type fault struct {
	what  string
	spoil func(c *call)
	want  api.Errno
}

// The processes of the world of office, and the requests of process 0.
const (
	full       = 2 // has as many requests as it can have
	ordinary   = 1 // a receive that waits
	idleSend   = 2
	idleRecv   = 3
	activeSend = 4
	activeRecv = 5
	partSend   = 6 // with 2 parts of 3 bytes, of which part 0 was given
	partRecv   = 7
	plainSend  = 8
	missing    = 10
)

// office returns a world with requests of all kinds, and a packet in the inboxes of 0 and 1.
func office(t *testing.T) *match.World {
	t.Helper()
	w := world(t, 3, 4, 2)
	recv(t, w, 0, 1, 100, 0)
	persistSend(t, w, 0, 1, 0)
	persistRecv(t, w, 0, 1, 0, 8)
	is(t, "Start", w.Start(0, persistSend(t, w, 0, api.NoRank, 0), nil), api.OK)
	is(t, "Start", w.Start(0, persistRecv(t, w, 0, 1, 101, 0), nil), api.OK)
	inParts(t, w, 0, true, api.NoRank, 0, 2, 3)
	is(t, "Ready", w.Ready(0, partSend, 0, []byte("abc")), api.OK)
	inParts(t, w, 0, false, 1, 0, 2, 3)
	send(t, w, 0, api.NoRank, 0, "")
	for range match.MaxRequests {
		recv(t, w, full, 0, 0, 0)
	}
	send(t, w, 1, 0, 50, "a")
	send(t, w, 0, 1, 50, "b")
	deliver(t, w, 1, 0, 1)
	deliver(t, w, 0, 1, 1)
	return w
}

func process(p int) func(*call)      { return func(c *call) { c.p = p } }
func peer(p int) func(*call)         { return func(c *call) { c.peer = p } }
func context(n int) func(*call)      { return func(c *call) { c.context = n } }
func tag(n int) func(*call)          { return func(c *call) { c.tag = n } }
func room(n int) func(*call)         { return func(c *call) { c.room = n } }
func request(n int) func(*call)      { return func(c *call) { c.req = n } }
func index(n int) func(*call)        { return func(c *call) { c.i = n } }
func bytesOf(n int) func(*call)      { return func(c *call) { c.data = make([]byte, n) } }
func synchronous(c *call)            { c.sync = true }
func partsOf(n, m int) func(*call)   { return func(c *call) { c.parts, c.size = n, m } }
func numbers(below, above int) []int { return []int{below, above, lowest, highest} }

// everywhere returns a fault for each of some numbers.
func everywhere(what string, set func(int) func(*call), want api.Errno, l ...int) []fault {
	var all []fault
	for _, n := range l {
		all = append(all, fault{what, set(n), want})
	}
	return all
}

// places returns the faults of a context and a tag.
func places(wild bool) []fault {
	low := -1
	if wild {
		low = -2
	}
	l := everywhere("context", context, api.ErrRange, numbers(-1, 1048577)...)
	return append(l, everywhere("tag", tag, api.ErrTag, numbers(low, 1048577)...)...)
}

// processes returns the faults of a process that makes a call.
func processes() []fault { return everywhere("p", process, api.ErrRank, -1, 3, -2, lowest, highest) }

// peers returns the faults of the other process.
func peers(l ...int) []fault {
	return everywhere("peer", peer, api.ErrRank, append(l, 3, -3, lowest, highest)...)
}

func many() fault { return fault{"many", process(full), api.ErrMany} }

// refused is a call that is right, and its faults in the order in which they are examined.
type refused struct {
	good   call
	faults []fault
}

// join returns faults one after the other.
func join(l ...[]fault) []fault {
	var all []fault
	for _, x := range l {
		all = append(all, x...)
	}
	return all
}

// rooms returns the faults of a room.
func rooms() []fault { return everywhere("room", room, api.ErrRange, numbers(-1, 4097)...) }

// requests returns the faults of a request that is not there.
func requests(more ...int) []fault {
	return everywhere("request", request, api.ErrNone, append(more, 0, missing, -1, lowest, highest)...)
}

// states returns the faults of requests in a state in which the call is not possible.
func states(l ...int) []fault { return everywhere("state", request, api.ErrState, l...) }

// single returns one fault.
func single(what string, spoil func(*call), want api.Errno) []fault {
	return []fault{{what, spoil, want}}
}

// making lists the calls that make a request, or look for a message, with their faults.
func making() []refused {
	big := single("bytes", bytesOf(4097), api.ErrLong)
	parts := join(
		single("no parts", partsOf(0, 1), api.ErrRange), single("parts", partsOf(65, 1), api.ErrRange), single("parts", partsOf(-1, -1), api.ErrRange),
		single("size", partsOf(1, -1), api.ErrRange), single("size", partsOf(1, 4097), api.ErrRange), single("product", partsOf(64, 65), api.ErrRange),
		single("product", partsOf(2, 2049), api.ErrRange), single("product", partsOf(64, highest), api.ErrRange), single("product", partsOf(highest, 64), api.ErrRange),
		single("product", partsOf(lowest, lowest), api.ErrRange), single("product", partsOf(3, highest/3*2), api.ErrRange))
	last := []fault{many()}
	return []refused{
		{call{name: "Send"}, join(processes(), peers(api.AnySource), places(false), big, last)},
		{call{name: "Recv", room: 1}, join(processes(), peers(), places(true), rooms(), last)},
		{call{name: "Probe"}, join(processes(), peers(), places(true))},
		{call{name: "Persist", send: true}, join(processes(), peers(api.AnySource), places(false), rooms(), everywhere("room", room, api.ErrArg, 1, 4096), last)},
		{call{name: "Persist", room: 1}, join(processes(), peers(), places(true), rooms(), single("sync", synchronous, api.ErrArg), last)},
		{call{name: "Parts", send: true, parts: 1}, join(processes(), peers(api.AnySource), places(false), parts, last)},
		{call{name: "Parts", parts: 1}, join(processes(), peers(api.AnySource), places(false), parts, last)},
	}
}

// naming lists the other calls, with their faults.
func naming() []refused {
	idle := []int{idleSend, idleRecv}
	persistent := requests(ordinary, partSend, partRecv, plainSend)
	active := states(activeSend, activeRecv)
	indexes := everywhere("part", index, api.ErrRange, 2, -1, lowest, highest)
	given := func(c *call) { c.i = 0 }
	other := []int{ordinary, idleSend, idleRecv, activeSend, activeRecv, plainSend}
	return []refused{
		{call{name: "Start", req: idleSend}, join(processes(), persistent, active, single("bytes", bytesOf(4097), api.ErrLong))},
		{call{name: "Start", req: idleRecv}, join(processes(), persistent, active, single("bytes", bytesOf(1), api.ErrArg), single("bytes", bytesOf(4097), api.ErrArg))},
		{call{name: "Free", req: idleSend}, join(processes(), persistent, active)},
		{call{name: "Free", req: idleRecv}, join(processes(), persistent, active)},
		{call{name: "Ready", req: partSend, i: 1, data: make([]byte, 3)}, join(processes(), requests(), states(append(other, partRecv)...), indexes, single("given", given, api.ErrHave), single("bytes", bytesOf(2), api.ErrShape), single("bytes", bytesOf(4), api.ErrShape), single("no bytes", bytesOf(0), api.ErrShape))},
		{call{name: "Arrived", req: partRecv}, join(processes(), requests(), states(append(other, partSend)...), indexes)},
		{call{name: "Test", req: ordinary}, join(processes(), requests(), states(idle...))},
		{call{name: "Cancel", req: ordinary}, join(processes(), requests(), states(idle...))},
		{call{name: "Progress"}, processes()},
		{call{name: "Lists"}, processes()},
		{call{name: "Deliver"}, join(processes(), peers(api.AnySource, api.NoRank))},
		{call{name: "Under"}, join(processes(), peers(api.AnySource, api.NoRank))},
	}
}

// P6.2 to P6.8, R1, R2: each fault causes its error, also together with those that are examined later; then nothing has changed.
func TestErrors(t *testing.T) {
	w := office(t)
	want := watch(t, w.Copy())
	for _, x := range append(making(), naming()...) {
		if r := do(w.Copy(), x.good); r.e != api.OK {
			t.Errorf("%+v: %v", x.good, r.e)
		}
		for i, f := range x.faults {
			alone := x.good
			f.spoil(&alone)
			shows(t, w, alone, result{e: f.want})
			for _, later := range x.faults[i+1:] {
				c := x.good
				later.spoil(&c)
				f.spoil(&c)
				shows(t, w, c, result{e: f.want})
			}
		}
	}
	equal(t, "after errors", watch(t, w), want)
}

// P6.2: the least and the greatest arguments that are valid, and the processes that stand for others.
func TestValidArguments(t *testing.T) {
	spoils := map[string][]func(*call){
		"":        {context(0), context(1048576), tag(0), tag(1048576), peer(0), peer(1), peer(2), peer(api.NoRank), process(1)},
		"Send":    {bytesOf(0), bytesOf(4096), synchronous},
		"Recv":    {room(0), room(4096), tag(api.AnyTag), peer(api.AnySource)},
		"Probe":   {tag(api.AnyTag), peer(api.AnySource)},
		"Persist": nil,
		"Parts":   {partsOf(1, 0), partsOf(1, 4096), partsOf(64, 64), partsOf(64, 0), partsOf(63, 65), partsOf(2, 2048)},
	}
	for _, x := range making() {
		l := append(spoils[""], spoils[x.good.name]...)
		switch {
		case x.good.name == "Persist" && x.good.send:
			l = append(l, synchronous)
		case x.good.name == "Persist":
			l = append(l, spoils["Recv"]...)
		}
		for _, f := range l {
			c := x.good
			f(&c)
			if r := do(office(t), c); r.e != api.OK || r.n == 0 && c.name != "Probe" {
				t.Errorf("%+v: %+v", c, r)
			}
		}
	}
}

// P6.8: a call of a process handles all packets in its inbox, and no others; one that returns an error, and Deliver, Under, Lists and Quiet handle nothing.
func TestCallsHandle(t *testing.T) {
	met := map[string]bool{}
	for _, x := range append(making(), naming()...) {
		w := office(t)
		if r := do(w, x.good); r.e != api.OK {
			t.Errorf("%+v: %v", x.good, r.e)
		}
		do(w, call{name: "Quiet"})
		want := 1
		for _, name := range handling() {
			if name == x.good.name {
				want, met[name] = 0, true
			}
		}
		handle(t, w, 0, want)
		handle(t, w, 1, 1)
	}
	if len(met) != len(handling()) || len(methods()) != len(handling())+3 {
		t.Error(met)
	}
}

// P6.2, P6.3: a process has at most 256 requests, of whatever kind, also those that are complete or not active.
func TestMany(t *testing.T) {
	w := world(t, 2, 4, 1)
	for i := range 256 {
		switch i % 4 {
		case 0:
			send(t, w, 0, api.NoRank, 0, "")
		case 1:
			persistSend(t, w, 0, 1, 0)
		case 2:
			recv(t, w, 0, 1, 0, 0)
		case 3:
			inParts(t, w, 0, false, 1, 0, 1, 1)
		}
	}
	lists(t, w, 0, 128, 0, 256)
	for _, x := range making() {
		want := api.ErrMany
		if x.good.name == "Probe" {
			want = api.OK
		}
		c := x.good
		c.peer = 1
		shows(t, w, c, result{e: want})
	}
	complete(t, w, 0, 1, from(api.NoRank, 0, 0), "")
	if n := send(t, w, 0, 1, 0, ""); n != 257 {
		t.Error("a number is given again:", n)
	}
	shows(t, w, call{name: "Send", peer: 1}, result{e: api.ErrMany})
	is(t, "Free", w.Free(0, 2), api.OK)
	if n := recv(t, w, 0, 1, 0, 0); n != 258 {
		t.Error("a number is given again:", n)
	}
	shows(t, w, call{name: "Cancel", req: 258}, result{ok: true})
	if n := inParts(t, w, 0, true, 1, 0, 1, 1); n != 259 {
		t.Error("a number is given again:", n)
	}
}
