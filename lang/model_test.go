package lang_test

import (
	"encoding/binary"
	"iter"
	"math/big"

	"armada/api"
	"armada/lang"
	"armada/match"
)

// model is a machine that follows the chapter without instructions: each process walks through the nodes of its program, and stops before each instruction that they stand for.
type model struct {
	n         int
	world     *match.World
	processes []*mprocess
	meetings  []*mmeeting
}

type mprocess struct {
	m        *model
	rank     int
	program  []lang.Node
	next     func() (int, bool) // goes on, and returns the instruction before which the process stops then
	stop     func()
	before   int // the instruction before which it is; that of its last step if it has failed
	happened bool
	kind     int
	errno    api.Errno
	vars     map[string]int64
	output   []int64
	events   []lang.Event
	deeds    []lang.Deed
	requests map[string]*mrequest
	named    int
	wilds    int
	met      int
	forced   []int
	fed      bool
	receives []lang.Event
	meets    []lang.Event
	yield    func(int) bool
}

type mrequest struct {
	id, no   int
	variable string
	receive  bool
	wild     bool
}

type mmeeting struct {
	op, root, operation int
	values              map[int]int64
}

// mfailure is what a process panics with that fails; mstop one that is not needed any more.
type (
	mfailure struct{ e api.Errno }
	mstop    struct{}
)

func newModel(programs [][]lang.Node, n, eager, credits int) *model {
	w, e := match.New(n, eager, credits)
	if e != api.OK {
		panic(e)
	}
	m := &model{n: n, world: w}
	for p := range n {
		q := &mprocess{m: m, rank: p, program: programs[p%len(programs)], kind: lang.Ready, vars: map[string]int64{}, requests: map[string]*mrequest{}}
		q.next, q.stop = iter.Pull(q.walk)
		q.before, _ = q.next()
		m.processes = append(m.processes, q)
	}
	return m
}

// close ends all processes.
func (m *model) close() {
	for _, q := range m.processes {
		q.stop()
	}
}

// walk goes through the program; it yields each instruction before it does it.
func (q *mprocess) walk(yield func(int) bool) {
	q.yield = yield
	defer func() {
		switch x := recover().(type) {
		case nil, mstop:
		case mfailure:
			q.kind, q.errno = lang.Failed, x.e
		default:
			panic(x)
		}
	}()
	q.list(q.program)
	q.at(lang.IEnd)
	q.kind = lang.Ended
}

// at stops before an instruction.
func (q *mprocess) at(op int) {
	q.before = op
	if !q.yield(op) {
		panic(mstop{})
	}
	q.happened = true
}

func (q *mprocess) fail(is bool, e api.Errno) {
	if is {
		panic(mfailure{e})
	}
}

// rest stays before an instruction, in some state, until something is there.
func (q *mprocess) rest(op, kind int, there func() bool) {
	q.kind = kind
	for q.at(op); !there(); q.at(op) {
		q.happened = false
	}
	q.kind = lang.Ready
}

func (q *mprocess) list(l []lang.Node) {
	for _, n := range l {
		q.do(n)
	}
}

// value walks through an expression.
func (q *mprocess) value(n lang.Node) int64 {
	switch n.Op {
	case lang.NInt:
		q.at(lang.IPush)
		return n.Value
	case lang.NName:
		q.at(lang.ILoad)
		return q.vars[n.Name]
	case lang.NRank:
		q.at(lang.IRank)
		return int64(q.rank)
	case lang.NSize:
		q.at(lang.ISize)
		return int64(q.m.n)
	case lang.NNeg:
		x := new(big.Int).Neg(big.NewInt(q.value(n.Args[0])))
		q.at(lang.INeg)
		return q.fit(x)
	case lang.NNot:
		x := q.value(n.Args[0])
		q.at(lang.INot)
		return one(x == 0)
	}
	a, b := q.value(n.Args[0]), q.value(n.Args[1])
	q.at(lang.IBin)
	return q.combine(n.Op, a, b)
}

func one(is bool) int64 {
	if is {
		return 1
	}
	return 0
}

func (q *mprocess) fit(x *big.Int) int64 {
	q.fail(!x.IsInt64(), api.ErrOver)
	return x.Int64()
}

func (q *mprocess) combine(op int, a, b int64) int64 {
	x, y, z := big.NewInt(a), big.NewInt(b), new(big.Int)
	order := x.Cmp(y)
	switch op {
	case lang.NAdd:
		return q.fit(z.Add(x, y))
	case lang.NSub:
		return q.fit(z.Sub(x, y))
	case lang.NMul:
		return q.fit(z.Mul(x, y))
	case lang.NDiv, lang.NMod:
		q.fail(b == 0, api.ErrArg)
		z.Div(new(big.Int).Mul(x, big.NewInt(int64(y.Sign()))), new(big.Int).Abs(y)) // rounded down, as the divisor is positive
		if op == lang.NDiv {
			return q.fit(z)
		}
		return z.Sub(x, z.Mul(z, y)).Int64()
	case lang.NEq:
		return one(order == 0)
	case lang.NNe:
		return one(order != 0)
	case lang.NLt:
		return one(order < 0)
	case lang.NLe:
		return one(order <= 0)
	case lang.NGt:
		return one(order > 0)
	case lang.NGe:
		return one(order >= 0)
	case lang.NAnd:
		return one(a != 0 && b != 0)
	case lang.NOr:
		return one(a != 0 || b != 0)
	}
	panic(op)
}

// args walks through the Args, and returns their values; those of NAny are -1.
func (q *mprocess) args(n lang.Node) []int64 {
	var l []int64
	for _, x := range n.Args {
		if x.Op == lang.NAny {
			l = append(l, -1)
		} else {
			l = append(l, q.value(x))
		}
	}
	return l
}

// do walks through a statement.
func (q *mprocess) do(n lang.Node) {
	v := q.args(n)
	switch n.Op {
	case lang.NSet:
		q.at(lang.IStore)
		q.vars[n.Name] = v[0]
	case lang.NSend:
		q.at(lang.ISend)
		q.waitFor(lang.ISend, q.send(n, v))
	case lang.NRecv:
		q.at(lang.IRecv)
		q.waitFor(lang.IRecv, q.receive(n, v, n.Name))
	case lang.NIsend:
		q.at(lang.IIsend)
		q.keep(n.Name, q.send(n, v))
	case lang.NIrecv:
		q.at(lang.IIrecv)
		q.keep(n.Name, q.receive(n, v, n.Other))
	case lang.NWait:
		q.at(lang.IWait)
		r := q.requests[n.Name]
		q.fail(r == nil, api.ErrState)
		q.deeds = append(q.deeds, lang.Deed{Kind: lang.DWait, Req: r.no})
		q.waitFor(lang.IWait, r)
		delete(q.requests, n.Name)
	case lang.NBarrier:
		q.at(lang.IBarrier)
		q.meet(lang.IBarrier, n, 0, 0)
	case lang.NBcast:
		q.at(lang.IBcast)
		q.fail(v[0] < 0 || v[0] >= int64(q.m.n), api.ErrRank)
		q.meet(lang.IBcast, n, int(v[0]), 0)
	case lang.NReduce:
		q.at(lang.IReduce)
		q.meet(lang.IReduce, n, 0, int(n.Value))
	case lang.NPrint:
		q.at(lang.IPrint)
		q.fail(len(q.output) == 1000, api.ErrMany)
		q.output = append(q.output, v[0])
	case lang.NWork:
		q.at(lang.IWork)
		q.fail(v[0] < 0 || v[0] > 1048576, api.ErrRange)
		q.events = append(q.events, lang.Event{Kind: lang.EWork, Value: v[0]})
	case lang.NIf:
		q.at(lang.IZero)
		if v[0] == 0 {
			q.list(n.Else)
			break
		}
		q.list(n.Body)
		if len(n.Else) > 0 {
			q.at(lang.IJump)
		}
	case lang.NWhile:
		q.at(lang.IZero)
		if v[0] != 0 {
			q.list(n.Body)
			q.at(lang.IJump)
			q.do(n)
		}
	}
}

// address examines the peer and the tag of a message, of which some can be any.
func (q *mprocess) address(n lang.Node, peer, tag int64) {
	isAny := func(i int) bool { return n.Args[i].Op == lang.NAny }
	q.fail(!isAny(0) && (peer < 0 || peer >= int64(q.m.n)), api.ErrRank)
	q.fail(!isAny(1) && (tag < 0 || tag > 1048576), api.ErrTag)
	q.fail((n.Op == lang.NIsend || n.Op == lang.NIrecv) && q.requests[n.Name] != nil, api.ErrState)
	q.fail(len(q.requests) >= match.MaxRequests, api.ErrMany)
}

func (q *mprocess) send(n lang.Node, v []int64) *mrequest {
	q.address(n, v[0], v[1])
	peer, tag, no := int(v[0]), int(v[1]), 0
	for _, x := range q.events {
		if x.Kind == lang.ESend && x.Peer == peer {
			no++
		}
	}
	d := lang.Deed{Kind: lang.DSend, Peer: peer, Tag: tag, Sync: n.Value == 1}
	if n.Op == lang.NIsend {
		d.Kind, d.Req = lang.DIsend, q.named
	}
	q.deeds = append(q.deeds, d)
	q.events = append(q.events, lang.Event{Kind: lang.ESend, Peer: peer, Tag: tag, No: no, Value: v[2]})
	r := &mrequest{no: q.named}
	if !q.fed {
		data := binary.BigEndian.AppendUint64(binary.BigEndian.AppendUint64(nil, uint64(v[2])), uint64(no))
		r.id, _ = q.m.world.Send(q.rank, peer, 0, tag, data, d.Sync)
	}
	return r
}

func (q *mprocess) receive(n lang.Node, v []int64, variable string) *mrequest {
	q.address(n, v[0], v[1])
	d := lang.Deed{Kind: lang.DRecv, Peer: int(v[0]), Tag: int(v[1])}
	r := &mrequest{no: q.named, variable: variable, receive: true, wild: n.Args[0].Op == lang.NAny}
	if r.wild {
		if q.wilds < len(q.forced) {
			d.Peer = q.forced[q.wilds]
		}
		q.wilds++
	}
	if n.Op == lang.NIrecv {
		d.Kind, d.Req = lang.DIrecv, q.named
	}
	q.deeds = append(q.deeds, d)
	if !q.fed {
		r.id, _ = q.m.world.Recv(q.rank, d.Peer, 0, d.Tag, 16)
	}
	return r
}

func (q *mprocess) keep(name string, r *mrequest) {
	q.requests[name] = r
	q.named++
}

// waitFor waits for a request; a receive has an event.
func (q *mprocess) waitFor(op int, r *mrequest) {
	var got lang.Event
	q.rest(op, lang.Waiting, func() bool {
		if q.fed {
			if !r.receive {
				return true
			}
			if len(q.receives) == 0 {
				return false
			}
			got, q.receives = q.receives[0], q.receives[1:]
			return true
		}
		s, data, is, e := q.m.world.Test(q.rank, r.id)
		if e != api.OK {
			panic(e)
		}
		if is && r.receive {
			got = lang.Event{Peer: s.Source, Tag: s.Tag, Value: int64(binary.BigEndian.Uint64(data)), No: int(binary.BigEndian.Uint64(data[8:]))}
		}
		return is
	})
	if r.receive {
		q.vars[r.variable] = got.Value
		q.events = append(q.events, lang.Event{Kind: lang.ERecv, Peer: got.Peer, Tag: got.Tag, No: got.No, Value: got.Value, Wild: r.wild})
	}
}

func (q *mprocess) meet(op int, n lang.Node, root, operation int) {
	no := q.met
	if !q.fed {
		for len(q.m.meetings) <= no {
			q.m.meetings = append(q.m.meetings, &mmeeting{op, root, operation, map[int]int64{}})
		}
		g := q.m.meetings[no]
		q.fail(g.op != op || g.root != root || g.operation != operation, api.ErrConflict)
		g.values[q.rank] = q.vars[n.Name]
	}
	q.met++
	q.deeds = append(q.deeds, lang.Deed{Kind: lang.DMeet})
	q.rest(op, lang.Meeting, func() bool {
		if q.fed {
			return no < len(q.meets)
		}
		return len(q.m.meetings[no].values) == q.m.n
	})
	var value int64
	if op != lang.IBarrier {
		if q.fed {
			value = q.meets[no].Value
		} else {
			value = q.m.meetings[no].result(q.m.n)
		}
		q.vars[n.Name] = value
	}
	q.events = append(q.events, lang.Event{Kind: lang.EMeet, No: no, Value: value})
}

// result returns the result of a meeting of n processes; sums and products wrap around.
func (g *mmeeting) result(n int) int64 {
	if g.op == lang.IBcast {
		return g.values[g.root]
	}
	so := g.values[0]
	for p := 1; p < n; p++ {
		v := g.values[p]
		switch g.operation {
		case api.OpSum:
			so += v
		case api.OpProd:
			so *= v
		case api.OpMin:
			so = min(so, v)
		case api.OpMax:
			so = max(so, v)
		case api.OpAnd:
			so &= v
		case api.OpOr:
			so |= v
		case api.OpXor:
			so ^= v
		}
	}
	return so
}

// step does what Step does.
func (m *model) step(p int) bool {
	q := m.processes[p]
	if q.kind == lang.Ended || q.kind == lang.Failed {
		return false
	}
	q.next()
	m.handle(p)
	return q.happened
}

// handle lets a process that is at a meeting, has ended or failed, handle its packets.
func (m *model) handle(p int) {
	if k := m.processes[p].kind; k == lang.Meeting || k == lang.Ended || k == lang.Failed {
		m.world.Progress(p)
	}
}

func (m *model) deliver(src, dst int) bool {
	is, _ := m.world.Deliver(src, dst)
	if is {
		m.handle(dst)
	}
	return is
}

// feed feeds a process.
func (m *model) feed(p int, l []lang.Event) {
	q := m.processes[p]
	q.fed, q.receives, q.meets = true, nil, nil
	for _, x := range l {
		switch x.Kind {
		case lang.ERecv:
			q.receives = append(q.receives, x)
		case lang.EMeet:
			q.meets = append(q.meets, x)
		}
	}
}

// over reports whether all processes have ended or failed.
func (m *model) over() bool {
	for _, q := range m.processes {
		if q.kind != lang.Ended && q.kind != lang.Failed {
			return false
		}
	}
	return true
}

// candidate is a step that a run can do: one of a process, or a delivery.
type candidate struct{ p, src, dst int }

// candidates lists what a run can do.
func (m *model) candidates(idle map[int]bool) []candidate {
	var l []candidate
	for p, q := range m.processes {
		if q.kind != lang.Ended && q.kind != lang.Failed && !idle[p] {
			l = append(l, candidate{p, -1, -1})
		}
	}
	for src := range m.n {
		for dst := range m.n {
			if n, _ := m.world.Under(src, dst); n > 0 {
				l = append(l, candidate{-1, src, dst})
			}
		}
	}
	return l
}

// run does what Run does, and lists what it did.
func (m *model) run(seed uint64, limit int) (lang.Result, []candidate) {
	idle := map[int]bool{}
	var done []candidate
	for !m.over() && len(done) < limit {
		l := m.candidates(idle)
		if len(l) == 0 {
			return lang.Result{Stuck: true, Steps: len(done)}, done
		}
		seed = seed*6364136223846793005 + 1442695040888963407
		x := l[seed/(1<<33)%uint64(len(l))]
		switch {
		case x.p < 0:
			m.deliver(x.src, x.dst)
			idle = map[int]bool{}
		case m.step(x.p):
			idle = map[int]bool{}
		default:
			idle[x.p] = true
		}
		done = append(done, x)
	}
	return lang.Result{Done: m.over(), Steps: len(done)}, done
}

// look returns what can be seen of the processes, but for their places.
func (m *model) look() []shown {
	var out []shown
	for _, q := range m.processes {
		out = append(out, shown{state: lang.State{Kind: q.kind, Errno: q.errno}, output: q.output, events: q.events, deeds: q.deeds})
	}
	return out
}
