package lang

import "armada/api"

// turn is a process of a machine at the instruction that it does.
type turn struct {
	m *Machine
	p int
	*process
	in   Instr
	next int // the instruction at which it goes on
}

// instructions returns what instructions do. With an error they do nothing but pop.
func instructions() map[int]func(*turn) api.Errno {
	return map[int]func(*turn) api.Errno{
		IPush:    (*turn).doPush,
		ILoad:    (*turn).doLoad,
		IStore:   (*turn).doStore,
		IRank:    (*turn).doRank,
		ISize:    (*turn).doSize,
		INeg:     (*turn).doNeg,
		INot:     (*turn).doNot,
		IBin:     (*turn).doBin,
		IJump:    (*turn).doJump,
		IZero:    (*turn).doZero,
		ISend:    (*turn).doSend,
		IRecv:    (*turn).doRecv,
		IIsend:   (*turn).doIsend,
		IIrecv:   (*turn).doIrecv,
		IWait:    (*turn).doWait,
		IBarrier: (*turn).doBarrier,
		IBcast:   (*turn).doBcast,
		IReduce:  (*turn).doReduce,
		IPrint:   (*turn).doPrint,
		IWork:    (*turn).doWork,
		IEnd:     (*turn).doEnd,
	}
}

// turnOf returns the turn of a process.
func (m *Machine) turnOf(p int) *turn {
	q := &m.processes[p]
	return &turn{m: m, p: p, process: q, in: q.code[q.at], next: q.at + 1}
}

// Step lets a process do its next instruction, if it can.
func (m *Machine) Step(p int) (bool, api.Errno) {
	q, e := m.process(p)
	if e != api.OK {
		return false, e
	}
	waited := q.kind == Waiting
	happened := m.step(p)
	if happened || waited { // a process that waits has handled packets
		m.log = appendStep(m.log, p)
	}
	return happened, api.OK
}

func (m *Machine) step(p int) bool {
	t := m.turnOf(p)
	switch t.kind {
	case Ended, Failed:
		return false
	case Waiting:
		return t.test()
	case Meeting:
		return t.leave()
	}
	t.stepped = true
	if e := m.do[t.in.Op](t); e != api.OK {
		t.kind, t.errno = Failed, e
	} else if t.kind == Ready {
		t.at = t.next
	}
	m.settle(p)
	return true
}

// settle lets a process that is at a meeting, has ended or failed, handle what has arrived.
func (m *Machine) settle(p int) {
	switch m.processes[p].kind {
	case Meeting, Ended, Failed:
		m.world.Progress(p)
	}
}

// goOn lets a process that waits, or is at a meeting, go on behind its instruction.
func (t *turn) goOn() { t.kind, t.at = Ready, t.next }

func (t *turn) push(value int64) { t.stack = append(t.stack, value) }

// pushResult pushes a result, unless there is an error.
func (t *turn) pushResult(value int64, e api.Errno) api.Errno {
	if e == api.OK {
		t.push(value)
	}
	return e
}

func (t *turn) pop() int64 {
	last := len(t.stack) - 1
	value := t.stack[last]
	t.stack = t.stack[:last]
	return value
}

// hasRank reports whether a value is the number of a process.
func (t *turn) hasRank(value int64) bool { return value >= 0 && value < int64(len(t.m.processes)) }

func (t *turn) doPush() api.Errno {
	t.push(t.in.Arg)
	return api.OK
}

func (t *turn) doLoad() api.Errno {
	t.push(t.variables[t.in.Name])
	return api.OK
}

func (t *turn) doStore() api.Errno {
	t.variables[t.in.Name] = t.pop()
	return api.OK
}

func (t *turn) doRank() api.Errno {
	t.push(int64(t.p))
	return api.OK
}

func (t *turn) doSize() api.Errno {
	t.push(int64(len(t.m.processes)))
	return api.OK
}

func (t *turn) doNeg() api.Errno { return t.pushResult(differenceOf(0, t.pop())) }

func (t *turn) doNot() api.Errno {
	t.push(truth(t.pop() == 0))
	return api.OK
}

func (t *turn) doBin() api.Errno {
	b, a := t.pop(), t.pop()
	return t.pushResult(binary(int(t.in.Arg), a, b))
}

func (t *turn) doJump() api.Errno {
	t.next = int(t.in.Arg)
	return api.OK
}

func (t *turn) doZero() api.Errno {
	if t.pop() == 0 {
		t.next = int(t.in.Arg)
	}
	return api.OK
}

func (t *turn) doPrint() api.Errno {
	value := t.pop()
	if len(t.output) >= MaxOutput {
		return api.ErrMany
	}
	t.output = append(t.output, value)
	return api.OK
}

func (t *turn) doWork() api.Errno {
	cost := t.pop()
	if cost < 0 || cost > MaxWork {
		return api.ErrRange
	}
	t.events = append(t.events, Event{Kind: EWork, Value: cost})
	return api.OK
}

func (t *turn) doEnd() api.Errno {
	t.kind = Ended
	return api.OK
}
