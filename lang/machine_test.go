package lang_test

import (
	"slices"
	"testing"

	"armada/api"
	"armada/lang"
)

// P7.4: the errors of New, and their order.
func TestNew(t *testing.T) {
	good, deepOne, wrong, large := program(t, "print rank;"), deep(9), []lang.Node{{Op: 99}}, many(1001, 0)
	for _, x := range []struct {
		programs          [][]lang.Node
		n, eager, credits int
		e                 api.Errno
	}{
		{[][]lang.Node{good}, 1, 0, 0, api.OK}, {[][]lang.Node{good}, 64, 4096, 64, api.OK}, {[][]lang.Node{good, good, nil}, 3, 16, 1, api.OK}, {[][]lang.Node{nil}, 2, 16, 1, api.OK},
		{[][]lang.Node{good}, 0, 0, 0, api.ErrRange}, {[][]lang.Node{good}, 65, 0, 0, api.ErrRange}, {[][]lang.Node{good}, -1, 0, 0, api.ErrRange}, {nil, 0, -1, 0, api.ErrRange}, {[][]lang.Node{wrong}, 0, 0, 0, api.ErrRange},
		{nil, 1, 0, 0, api.ErrShape}, {[][]lang.Node{}, 3, -1, 0, api.ErrShape}, {[][]lang.Node{good, good}, 1, 0, 0, api.ErrShape}, {[][]lang.Node{good, good}, 3, 0, 0, api.ErrShape}, {[][]lang.Node{wrong, wrong}, 3, 0, 0, api.ErrShape},
		{[][]lang.Node{wrong}, 3, 0, 0, api.ErrArg}, {[][]lang.Node{good, wrong, deepOne}, 3, -1, 0, api.ErrArg}, {[][]lang.Node{good, deepOne, wrong}, 3, 0, -1, api.ErrDeep}, {[][]lang.Node{large, deepOne}, 2, 0, 0, api.ErrMany},
		{[][]lang.Node{good}, 1, -1, 0, api.ErrRange}, {[][]lang.Node{good}, 1, 4097, 0, api.ErrRange}, {[][]lang.Node{good}, 1, 0, -1, api.ErrRange}, {[][]lang.Node{good}, 1, 0, 65, api.ErrRange},
	} {
		m, e := lang.New(x.programs, x.n, x.eager, x.credits)
		if e != x.e || (m == nil) != (e != api.OK) {
			t.Errorf("%d programs, %d %d %d: %v %v, not %v", len(x.programs), x.n, x.eager, x.credits, m, e, x.e)
		}
		if e == api.OK && m.Size() != x.n {
			t.Error("Size", m.Size(), x.n)
		}
	}
}

// P7.4: a new machine is before its first steps; with one program all processes have this one.
func TestNewMachine(t *testing.T) {
	m := machine(t, 3, 1, "print 10 * rank + size;")
	for p := range 3 {
		isIn(t, m, p, lang.State{Kind: lang.Ready})
		prints(t, m, p)
		shows(t, m, p)
		began(t, m, p)
	}
	run(t, m, 1)
	for p := range 3 {
		isIn(t, m, p, lang.State{Kind: lang.Ended, At: 6})
		prints(t, m, p, int64(10*p+3))
	}
	m = machine(t, 3, 1, "print 5;", "x = 1;", "")
	run(t, m, 1)
	prints(t, m, 0, 5)
	prints(t, m, 1)
	holds(t, m, 1, "x", 1)
	for p, at := range []int{2, 2, 0} {
		isIn(t, m, p, lang.State{Kind: lang.Ended, At: at})
	}
}

// P7.4: a copy and its machine are independent.
func TestCopy(t *testing.T) {
	text := "isend r, 1 - rank, 0, rank; irecv s, x, 1 - rank, 0; y = 7; reduce y, sum; wait r; wait s; print x; print y;"
	for first := range 40 {
		m := machine(t, 2, 0, text)
		if _, e := m.Run(5, first); e != api.OK {
			t.Fatal(e)
		}
		c := m.Copy()
		before := look(c, "x", "y")
		run(t, m, 1)
		if !same(look(c, "x", "y"), before) {
			t.Fatal("the copy has changed", first)
		}
		after := look(m, "x", "y")
		run(t, c, 2)
		if !same(look(m, "x", "y"), after) {
			t.Fatal("the machine has changed", first)
		}
		for p := range 2 {
			prints(t, c, p, int64(1-p), 14)
		}
	}
	// what is forced and fed is copied, too
	m := machine(t, 3, 1, "recv x, any, any; recv y, any, any; print x; print y;", "send 0, 0, 1;", "send 0, 0, 2;")
	is(t, "Force", m.Force(0, []int{2, 1}), api.OK)
	is(t, "Feed", m.Feed(1, nil), api.OK)
	c := m.Copy()
	is(t, "Feed of the copy", c.Feed(0, []lang.Event{{Kind: lang.ERecv, Value: 8}, {Kind: lang.ERecv, Value: 9}}), api.OK)
	is(t, "Force of the copy", c.Force(0, nil), api.OK)
	run(t, c, 1)
	prints(t, c, 0, 8, 9)
	if r := run(t, m, 1); !r.Stuck {
		t.Error(r)
	}
	began(t, m, 0, lang.Deed{Kind: lang.DRecv, Peer: 2, Tag: -1}, lang.Deed{Kind: lang.DRecv, Peer: 1, Tag: -1})
	prints(t, m, 0)
}

// P7.4: a machine and its copy, of which each goes on in its own way from the same state.
func TestCopiesGoApart(t *testing.T) {
	texts := []string{"while i < 20 { recv x, any, 0; print x; send 0, x, x; recv y, 0, x; work x; i = i + 1; }", "while i < 10 { send 0, 0, 1; i = i + 1; }", "while i < 10 { send 0, 0, 2; i = i + 1; }"}
	// round lets process 0 receive a message of another one
	round := func(m *lang.Machine, src int) {
		onward(t, m, src)
		deliver(t, m, src, 0, 1)
		onward(t, m, 0)
		for ok := true; ok; ok, _ = m.Deliver(0, 0) { // its message to itself, and the credit
			onward(t, m, 0)
		}
	}
	for rounds := range 9 {
		m := machine(t, 3, 64, texts...)
		for range rounds {
			round(m, 1)
		}
		c := m.Copy()
		round(m, 1)
		round(c, 2)
		round(m, 2)
		round(c, 1)
		was := slices.Repeat([]int64{1}, rounds)
		prints(t, m, 0, append(slices.Clone(was), 1, 2)...)
		prints(t, c, 0, append(slices.Clone(was), 2, 1)...)
		for i, x := range []*lang.Machine{m, c} {
			d, _ := x.Deeds(0)
			l, _ := x.Events(0)
			if d[3*rounds+1].Tag != 1+i || l[4*rounds+3] != (lang.Event{Kind: lang.EWork, Value: int64(1 + i)}) {
				t.Errorf("%d %d: %+v\n%+v", rounds, i, d, l)
			}
			alike(t, "it is loaded", x, loaded(t, programs(t, texts...), saved(t, x)), "x", "y", "i")
		}
	}
}

// P7.5: Force: its errors, and what it does.
func TestForce(t *testing.T) {
	texts := []string{"recv x, any, any; recv y, 1, any; irecv r, z, any, 0; wait r; recv w, any, any; print 100 * x + 10 * z + w;", "send 0, 0, 1; send 0, 0, 2; send 0, 0, 3;", "send 0, 0, 4; send 0, 0, 5;"}
	m := machine(t, 3, 9, texts...)
	for _, x := range []struct {
		p       int
		sources []int
		e       api.Errno
	}{
		{-1, nil, api.ErrRank}, {3, nil, api.ErrRank}, {3, []int{7}, api.ErrRank}, {0, []int{1, 3}, api.ErrRank}, {0, []int{-1}, api.ErrRank}, {0, []int{api.NoRank}, api.ErrRank},
		{0, []int{1, 1, 1}, api.OK}, {0, nil, api.OK}, {0, []int{2, 1}, api.OK}, {0, []int{3, 1}, api.ErrRank}, {1, []int{0, 1, 2, 2, 2}, api.OK},
	} {
		is(t, "Force", m.Force(x.p, x.sources), x.e)
	}
	run(t, m, 3)
	// the first two receives from any process are from 2 and from 1; the one between them is not from any
	d, _ := m.Deeds(0)
	want := []lang.Deed{{Kind: lang.DRecv, Peer: 2, Tag: -1}, {Kind: lang.DRecv, Peer: 1, Tag: -1}, {Kind: lang.DIrecv, Peer: 1, Tag: 0}, {Kind: lang.DWait}, {Kind: lang.DRecv, Peer: -1, Tag: -1}}
	if !slices.Equal(d, want) {
		t.Error(d)
	}
	l, _ := m.Events(0)
	for i, wild := range []bool{true, false, true, true} {
		if l[i].Kind != lang.ERecv || l[i].Wild != wild {
			t.Error(i, l)
		}
	}
	if l[0].Peer != 2 || l[0].Value != 4 || l[1].Value != 1 || l[2].Value != 2 || l[2].Peer != 1 {
		t.Error(l)
	}
	is(t, "Force of one that has ended", m.Force(0, nil), api.ErrState)
	is(t, "Force with a wrong source", m.Force(0, []int{9}), api.ErrRank)
	// a process that has done a step
	m = machine(t, 2, 1, "")
	step(t, m, 0, 1)
	is(t, "Force behind a step", m.Force(0, []int{0}), api.ErrState)
	is(t, "Force of the other one", m.Force(1, []int{0}), api.OK)
	m.Run(1, 1)
	is(t, "Force behind a run", m.Force(1, []int{0}), api.ErrState)
}

// P7.5: a receive that fails is not begun, so that it uses no source that is forced.
func TestForceFailed(t *testing.T) {
	m := machine(t, 1, 1, "irecv r, x, any, 0; irecv r, x, any, 0;")
	is(t, "Force", m.Force(0, []int{0}), api.OK)
	run(t, m, 0)
	failed(t, m, 0, api.ErrState)
	began(t, m, 0, lang.Deed{Kind: lang.DIrecv, Peer: 0, Tag: 0})
}

// P7.5: Feed: its errors.
func TestFeed(t *testing.T) {
	m := machine(t, 2, 1, "recv x, any, any; print x;")
	long := make([]lang.Event, 10001)
	for _, x := range []struct {
		p int
		l []lang.Event
		e api.Errno
	}{
		{-1, nil, api.ErrRank}, {2, long, api.ErrRank}, {0, long, api.ErrMany}, {0, long[:10000], api.OK},
		{0, []lang.Event{{Kind: lang.ERecv, Value: 4}}, api.OK}, {0, []lang.Event{{Kind: lang.ERecv, Value: 5}}, api.OK}, {1, nil, api.OK},
	} {
		is(t, "Feed", m.Feed(x.p, x.l), x.e)
	}
	onward(t, m, 0)
	prints(t, m, 0, 5)
	is(t, "Feed behind a step", m.Feed(0, nil), api.ErrState)
	is(t, "Feed of many events behind a step", m.Feed(0, long), api.ErrMany)
	onward(t, m, 1)
	kinds(t, m, lang.Ended, lang.Waiting)
}

// P7.5: a process that is fed goes on alone.
func TestFedProcess(t *testing.T) {
	text := "ssend 1, 5, 10; isend r, 0, 6, 11; wait r; isend s, 1, 7, 12; irecv q, z, 1, 1; recv x, 1, 9; wait q; x = x + z; reduce x, sum; barrier; bcast y, 1; print x; print y; recv x, any, any; work 3; print x; recv x, 0, 0;"
	m := machine(t, 2, 0, text)
	l := []lang.Event{
		{Kind: lang.ESend, Peer: 9, Value: 1}, {Kind: lang.EMeet, No: 77, Value: 100}, {Kind: lang.ERecv, Peer: 5, Tag: -3, No: 8, Value: 20, Wild: true}, {Kind: lang.EWork, Value: -1},
		{Kind: lang.ERecv, Peer: 6, Tag: 4, No: 9, Value: 30}, {Kind: lang.EMeet, Value: 200, Wild: true}, {Kind: 0}, {Kind: 17}, {Kind: lang.EMeet, Value: 300}, {Kind: lang.ERecv, Value: -40},
	}
	is(t, "Feed", m.Feed(0, l), api.OK)
	l[2] = lang.Event{}
	onward(t, m, 0)
	prints(t, m, 0, 100, 300, -40)
	holds(t, m, 0, "z", 30)
	shows(t, m, 0,
		lang.Event{Kind: lang.ESend, Peer: 1, Tag: 5, Value: 10}, lang.Event{Kind: lang.ESend, Peer: 0, Tag: 6, Value: 11}, lang.Event{Kind: lang.ESend, Peer: 1, Tag: 7, No: 1, Value: 12},
		lang.Event{Kind: lang.ERecv, Peer: 5, Tag: -3, No: 8, Value: 20}, lang.Event{Kind: lang.ERecv, Peer: 6, Tag: 4, No: 9, Value: 30},
		lang.Event{Kind: lang.EMeet, Value: 100}, lang.Event{Kind: lang.EMeet, No: 1}, lang.Event{Kind: lang.EMeet, No: 2, Value: 300},
		lang.Event{Kind: lang.ERecv, Value: -40, Wild: true}, lang.Event{Kind: lang.EWork, Value: 3})
	began(t, m, 0,
		lang.Deed{Kind: lang.DSend, Peer: 1, Tag: 5, Sync: true}, lang.Deed{Kind: lang.DIsend, Peer: 0, Tag: 6}, lang.Deed{Kind: lang.DWait}, lang.Deed{Kind: lang.DIsend, Peer: 1, Tag: 7, Req: 1},
		lang.Deed{Kind: lang.DIrecv, Peer: 1, Tag: 1, Req: 2}, lang.Deed{Kind: lang.DRecv, Peer: 1, Tag: 9}, lang.Deed{Kind: lang.DWait, Req: 2}, lang.Deed{Kind: lang.DMeet}, lang.Deed{Kind: lang.DMeet}, lang.Deed{Kind: lang.DMeet},
		lang.Deed{Kind: lang.DRecv, Peer: -1, Tag: -1}, lang.Deed{Kind: lang.DRecv})
	kinds(t, m, lang.Waiting, lang.Ready)
	for src := range 2 {
		for dst := range 2 {
			empty(t, m, src, dst)
		}
	}
	// it comes to no meeting of the others
	m = machine(t, 2, 0, "barrier; print 1;")
	is(t, "Feed", m.Feed(0, []lang.Event{{Kind: lang.EMeet}}), api.OK)
	onward(t, m, 0)
	onward(t, m, 1)
	kinds(t, m, lang.Ended, lang.Meeting)
	// a meeting about which the others do not agree is none for it
	m = machine(t, 2, 0, "reduce x, sum;", "barrier;")
	is(t, "Feed", m.Feed(1, nil), api.OK)
	onward(t, m, 0)
	onward(t, m, 1)
	kinds(t, m, lang.Meeting, lang.Meeting)
	// its steps take as long as those of the others: it begins, and then it goes on
	m = machine(t, 1, 0, "send 0, 0, 0;")
	is(t, "Feed", m.Feed(0, nil), api.OK)
	step(t, m, 0, 4)
	isIn(t, m, 0, lang.State{Kind: lang.Waiting, At: 3})
	step(t, m, 0, 1)
	isIn(t, m, 0, lang.State{Kind: lang.Ready, At: 4})
	// errors are as for other processes
	for text, e := range map[string]api.Errno{"send 9, 0, 0;": api.ErrRank, "recv x, 0, 0 - 1;": api.ErrTag, "isend r, 0, 0, 0; isend r, 0, 0, 0;": api.ErrState, "wait r;": api.ErrState, "isend r, 0, 0, 0; wait r; wait r;": api.ErrState, "bcast x, 1;": api.ErrRank, "work 0 - 1;": api.ErrRange} {
		m = machine(t, 1, 0, text)
		is(t, "Feed", m.Feed(0, nil), api.OK)
		onward(t, m, 0)
		failed(t, m, 0, e)
	}
	// messages to it wait, and are not answered
	m = machine(t, 2, 0, "if rank == 0 { recv x, 1, 0; } else { send 0, 0, 5; }")
	is(t, "Feed", m.Feed(0, []lang.Event{{Kind: lang.ERecv, Value: 6}}), api.OK)
	if r := run(t, m, 1); !r.Stuck {
		t.Error(r)
	}
	holds(t, m, 0, "x", 6)
	kinds(t, m, lang.Ended, lang.Waiting)
}

// P7.5: Step and Deliver: their errors; Step of a process that has ended, or failed.
func TestStep(t *testing.T) {
	m := machine(t, 2, 1, "print 1;", "print 1 / 0;")
	for _, p := range []int{-1, 2, highest, lowest} {
		if ok, e := m.Step(p); ok || e != api.ErrRank {
			t.Error("Step", p, ok, e)
		}
		for _, x := range [][2]int{{p, 0}, {0, p}, {p, p}} {
			if ok, e := m.Deliver(x[0], x[1]); ok || e != api.ErrRank {
				t.Error("Deliver", x, ok, e)
			}
		}
	}
	step(t, m, 0, 3)
	isIn(t, m, 0, lang.State{Kind: lang.Ended, At: 2})
	step(t, m, 1, 3)
	isIn(t, m, 1, lang.State{Kind: lang.Failed, At: 2, Errno: api.ErrArg})
	for p := range 2 {
		still(t, m, p)
		still(t, m, p)
		empty(t, m, p, 1-p)
	}
}

// P7.5: steps of processes that wait, and packets.
func TestWaiting(t *testing.T) {
	m := machine(t, 2, 1, "ssend 1, 3, 8;", "x = 5; recv x, 0, any;")
	step(t, m, 0, 4)
	isIn(t, m, 0, lang.State{Kind: lang.Waiting, At: 3})
	still(t, m, 0)
	isIn(t, m, 0, lang.State{Kind: lang.Waiting, At: 3})
	step(t, m, 1, 4)
	isIn(t, m, 1, lang.State{Kind: lang.Waiting, At: 3})
	empty(t, m, 1, 0)
	deliver(t, m, 0, 1, 1)
	empty(t, m, 1, 0)
	still(t, m, 1) // it handles the message, which it has to ask for
	deliver(t, m, 1, 0, 1)
	empty(t, m, 0, 1)
	step(t, m, 0, 1)
	isIn(t, m, 0, lang.State{Kind: lang.Ready, At: 4})
	holds(t, m, 1, "x", 5)
	shows(t, m, 1)
	still(t, m, 1)
	deliver(t, m, 0, 1, 1)
	step(t, m, 1, 1)
	holds(t, m, 1, "x", 8)
	isIn(t, m, 1, lang.State{Kind: lang.Ready, At: 4})
	shows(t, m, 1, lang.Event{Kind: lang.ERecv, Peer: 0, Tag: 3, Value: 8})
	for p := range 2 {
		step(t, m, p, 1)
	}
	kinds(t, m, lang.Ended, lang.Ended)
}

// P7.5: a process that waits at no meeting handles what has arrived only in its own steps; one that is at a meeting, has ended or failed, at once.
func TestHandlesAtOnce(t *testing.T) {
	sender := "isend r, 1, 0, 5; barrier; wait r;"
	for _, x := range []struct {
		text  string
		after int // how many steps the receiver does before the packet arrives
		now   bool
	}{
		{"irecv r, x, 0, 0; barrier;", 3, false}, {"irecv r, x, 0, 0; barrier;", 4, true},
		{"irecv r, x, 0, 0;", 3, false}, {"irecv r, x, 0, 0;", 4, true},
		{"irecv r, x, 0, 0; print 1 / 0;", 5, false}, {"irecv r, x, 0, 0; print 1 / 0;", 6, true},
		{"irecv r, x, 0, 0; wait r;", 4, false},
	} {
		m := machine(t, 2, 0, sender, x.text)
		onward(t, m, 0)
		step(t, m, 1, x.after)
		deliver(t, m, 0, 1, 1)
		if ok, _ := m.Deliver(1, 0); ok != x.now {
			t.Errorf("%s behind %d steps: %v", x.text, x.after, ok)
		}
		// what has arrived before is handled when a step brings the process to its end, or to a meeting
		m = machine(t, 2, 0, sender, x.text)
		onward(t, m, 0)
		step(t, m, 1, 3)
		deliver(t, m, 0, 1, 1)
		for k := range x.after - 3 {
			empty(t, m, 1, 0)
			step(t, m, 1, 1)
			if k == x.after-4 && x.now {
				deliver(t, m, 1, 0, 1)
			}
		}
	}
}

// P7.5: Run: its errors and results.
func TestRun(t *testing.T) {
	m := machine(t, 2, 1, programB)
	for _, limit := range []int{-1, lowest, 100001, highest} {
		if r, e := m.Run(1, limit); r != (lang.Result{}) || e != api.ErrRange {
			t.Error(limit, r, e)
		}
	}
	runs := func(limit int, want lang.Result) {
		t.Helper()
		if r, e := m.Run(7, limit); r != want || e != api.OK {
			t.Error(r, e, "not", want)
		}
	}
	runs(0, lang.Result{})
	runs(5, lang.Result{Steps: 5})
	r, e := m.Run(7, 100000)
	if !r.Done || r.Stuck || e != api.OK {
		t.Fatal(r, e)
	}
	runs(100000, lang.Result{Done: true})
	runs(0, lang.Result{Done: true})
	// the limit that is just enough
	m = machine(t, 2, 1, programB)
	whole, _ := m.Run(9, 100000)
	m = machine(t, 2, 1, programB)
	if r, _ := m.Run(9, whole.Steps); r != whole {
		t.Error(r, whole)
	}
	m = machine(t, 2, 1, programB)
	if r, _ := m.Run(9, whole.Steps-1); r != (lang.Result{Steps: whole.Steps - 1}) {
		t.Error(r, whole)
	}
	// stuck, with the limit that is just enough to see that no candidate is left, and with less
	m = machine(t, 1, 1, "recv x, 0, 0;")
	runs(4, lang.Result{Steps: 4})
	runs(0, lang.Result{})
	runs(1, lang.Result{Steps: 1})
	runs(2, lang.Result{Stuck: true, Steps: 1})
	// failing is an end, too
	m = machine(t, 1, 1, "recv x, 9, 0;")
	runs(9, lang.Result{Done: true, Steps: 3})
	// a loop without an end
	m = machine(t, 1, 1, "while 1 {}")
	runs(100000, lang.Result{Steps: 100000})
}

// P7.5: how a run chooses: a process that is ready, and a packet on its way, are two candidates, between which the numbers of the generator decide.
func TestRunChoices(t *testing.T) {
	for seed := range uint64(30) {
		m := machine(t, 1, 1, "isend r, 0, 0, 5; print 1; print 2; print 3; print 4; print 5;")
		if r, e := m.Run(99, 4); r.Steps != 4 || e != api.OK {
			t.Fatal(r, e)
		}
		other := m.Copy()
		x, steps, there := seed, 0, true
		for ; there && steps < 8; steps++ {
			x = x*6364136223846793005 + 1442695040888963407
			if there = x/(1<<33)%2 == 0; there {
				step(t, m, 0, 1)
			} else {
				deliver(t, m, 0, 0, 1)
			}
		}
		if r, e := other.Run(seed, steps); r.Steps != steps || e != api.OK {
			t.Fatal(r, e)
		}
		alike(t, "a run", m, other)
		if ok, e := other.Deliver(0, 0); ok != there || e != api.OK {
			t.Error("the packet", seed, ok, there, e)
		}
	}
}

// P7.6: the errors of what shows a process, and Var.
func TestShow(t *testing.T) {
	m := machine(t, 2, 1, "x = 4; wait r; recv y, any, z; bcast w, v; reduce u, min; irecv s, q, 0, 0; print p1;", "isend x, 0, 0, y;")
	for _, p := range []int{-1, 2, highest, lowest} {
		if s, e := m.State(p); s != (lang.State{}) || e != api.ErrRank {
			t.Error("State", s, e)
		}
		if l, e := m.Output(p); len(l) > 0 || e != api.ErrRank {
			t.Error("Output", l, e)
		}
		if l, e := m.Events(p); len(l) > 0 || e != api.ErrRank {
			t.Error("Events", l, e)
		}
		if l, e := m.Deeds(p); len(l) > 0 || e != api.ErrRank {
			t.Error("Deeds", l, e)
		}
		if v, e := m.Var(p, "x"); v != 0 || e != api.ErrRank {
			t.Error("Var", v, e)
		}
	}
	for _, name := range []string{"x", "y", "z", "w", "v", "u", "q", "p1"} {
		holds(t, m, 0, name, 0)
	}
	holds(t, m, 1, "y", 0)
	for _, name := range []string{"r", "s", "a", "", "X", "rank", "x "} {
		if v, e := m.Var(0, name); v != 0 || e != api.ErrNone {
			t.Error(name, v, e)
		}
	}
	if v, e := m.Var(1, "x"); v != 0 || e != api.ErrNone {
		t.Error("a request of the other program", v, e)
	}
	onward(t, m, 0)
	holds(t, m, 0, "x", 4)
	failed(t, m, 0, api.ErrState)
}
