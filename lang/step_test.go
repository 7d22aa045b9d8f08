package lang_test

import (
	"fmt"
	"testing"

	"armada/api"
	"armada/lang"
)

// literal returns an expression that has a value, also one that no number of a text has.
func literal(v int64) lang.Node {
	if v >= 0 {
		return lang.Node{Op: lang.NInt, Value: v}
	}
	return node(lang.NSub, node(lang.NNeg, lang.Node{Op: lang.NInt, Value: -(v + 1)}), number(1))
}

// value returns what a process prints for an expression, or the error with which it fails.
func value(t *testing.T, n lang.Node) (int64, api.Errno) {
	t.Helper()
	m := machineOf(t, [][]lang.Node{{node(lang.NPrint, n)}}, 1, 0, 0)
	run(t, m, 0)
	s, _ := m.State(0)
	l, _ := m.Output(0)
	if (s.Kind == lang.Ended) != (len(l) == 1) {
		t.Fatal(s, l)
	}
	return append(l, 0)[0], s.Errno
}

// P7.5: the results of operators, at the edges of their range, too.
func TestOperators(t *testing.T) {
	over, zero := api.ErrOver, api.ErrArg
	for _, x := range []struct {
		op   int
		a, b int64
		want int64
		e    api.Errno
	}{
		{lang.NAdd, 2, 3, 5, 0}, {lang.NAdd, most, 0, most, 0}, {lang.NAdd, most, 1, 0, over}, {lang.NAdd, 1, most, 0, over}, {lang.NAdd, least, -1, 0, over}, {lang.NAdd, least, most, -1, 0}, {lang.NAdd, least, least, 0, over}, {lang.NAdd, most, most, 0, over}, {lang.NAdd, least + 1, -1, least, 0}, {lang.NAdd, most - 1, 1, most, 0},
		{lang.NSub, 2, 3, -1, 0}, {lang.NSub, least, 1, 0, over}, {lang.NSub, most, -1, 0, over}, {lang.NSub, 0, least, 0, over}, {lang.NSub, -1, least, most, 0}, {lang.NSub, least, least, 0, 0}, {lang.NSub, -1, most, least, 0}, {lang.NSub, -2, most, 0, over}, {lang.NSub, least + 1, 1, least, 0}, {lang.NSub, most - 1, -1, most, 0},
		{lang.NMul, 6, -7, -42, 0}, {lang.NMul, most, 1, most, 0}, {lang.NMul, most, -1, least + 1, 0}, {lang.NMul, least, 1, least, 0}, {lang.NMul, least, -1, 0, over}, {lang.NMul, -1, least, 0, over}, {lang.NMul, least, 0, 0, 0}, {lang.NMul, 0, least, 0, 0}, {lang.NMul, 1 << 32, 1 << 31, 0, over}, {lang.NMul, 1 << 32, -1 << 31, least, 0}, {lang.NMul, 1 << 32, 1 << 32, 0, over}, {lang.NMul, least, 2, 0, over}, {lang.NMul, 2, least, 0, over}, {lang.NMul, 3037000500, 3037000500, 0, over}, {lang.NMul, 3037000499, 3037000499, 9223372030926249001, 0}, {lang.NMul, least, least, 0, over},
		{lang.NDiv, 7, 2, 3, 0}, {lang.NDiv, -7, 2, -4, 0}, {lang.NDiv, 7, -2, -4, 0}, {lang.NDiv, -7, -2, 3, 0}, {lang.NDiv, 6, -2, -3, 0}, {lang.NDiv, -6, 2, -3, 0}, {lang.NDiv, 0, -5, 0, 0}, {lang.NDiv, 1, most, 0, 0}, {lang.NDiv, -1, most, -1, 0}, {lang.NDiv, least, -1, 0, over}, {lang.NDiv, least, 1, least, 0}, {lang.NDiv, most, -1, least + 1, 0}, {lang.NDiv, most, least, -1, 0}, {lang.NDiv, least, most, -2, 0}, {lang.NDiv, 1, 0, 0, zero}, {lang.NDiv, 0, 0, 0, zero}, {lang.NDiv, least, 0, 0, zero},
		{lang.NMod, 7, 2, 1, 0}, {lang.NMod, -7, 2, 1, 0}, {lang.NMod, 7, -2, -1, 0}, {lang.NMod, -7, -2, -1, 0}, {lang.NMod, 6, -2, 0, 0}, {lang.NMod, -6, 2, 0, 0}, {lang.NMod, least, -1, 0, 0}, {lang.NMod, least, most, most - 1, 0}, {lang.NMod, most, least, -1, 0}, {lang.NMod, 5, 0, 0, zero}, {lang.NMod, 0, 0, 0, zero},
		{lang.NEq, 3, 3, 1, 0}, {lang.NEq, 3, -3, 0, 0}, {lang.NNe, 3, 3, 0, 0}, {lang.NNe, least, most, 1, 0}, {lang.NLt, least, most, 1, 0}, {lang.NLt, 2, 2, 0, 0}, {lang.NLt, 3, 2, 0, 0}, {lang.NLe, 2, 2, 1, 0}, {lang.NLe, 3, 2, 0, 0}, {lang.NLe, -3, 2, 1, 0},
		{lang.NGt, most, least, 1, 0}, {lang.NGt, 2, 2, 0, 0}, {lang.NGt, 1, 2, 0, 0}, {lang.NGe, 2, 2, 1, 0}, {lang.NGe, 1, 2, 0, 0}, {lang.NGe, 1, -2, 1, 0},
		{lang.NAnd, 0, 0, 0, 0}, {lang.NAnd, 0, 5, 0, 0}, {lang.NAnd, -5, 0, 0, 0}, {lang.NAnd, 2, 4, 1, 0}, {lang.NOr, 0, 0, 0, 0}, {lang.NOr, 0, 2, 1, 0}, {lang.NOr, least, 0, 1, 0}, {lang.NOr, 2, 2, 1, 0},
	} {
		if v, e := value(t, node(x.op, literal(x.a), literal(x.b))); v != x.want || e != x.e {
			t.Errorf("operation %d of %d and %d: %d %v, not %d %v", x.op, x.a, x.b, v, e, x.want, x.e)
		}
	}
	for _, x := range []struct {
		op      int
		a, want int64
		e       api.Errno
	}{{lang.NNeg, 5, -5, 0}, {lang.NNeg, 0, 0, 0}, {lang.NNeg, most, least + 1, 0}, {lang.NNeg, least + 1, most, 0}, {lang.NNeg, least, 0, over}, {lang.NNot, 0, 1, 0}, {lang.NNot, 1, 0, 0}, {lang.NNot, least, 0, 0}} {
		if v, e := value(t, node(x.op, literal(x.a))); v != x.want || e != x.e {
			t.Errorf("operation %d of %d: %d %v", x.op, x.a, v, e)
		}
	}
	// both sides are computed, whatever the first one is
	if _, e := value(t, node(lang.NOr, number(1), node(lang.NDiv, number(1), number(0)))); e != zero {
		t.Error(e)
	}
	if _, e := value(t, node(lang.NAnd, number(0), node(lang.NDiv, number(1), number(0)))); e != zero {
		t.Error(e)
	}
}

// P7.5: each instruction takes one step.
func TestInstructionsAndSteps(t *testing.T) {
	for _, text := range []string{"x = 1 + 2 * -3;", "print not rank; print size;", "if 0 { print 1; } else { print 2; }", "if 1 { print 1; } else { print 2; }", "if 1 { print 1; }", "x = 3; while x > 0 { x = x - 1; if x == 1 { print x; } }", "isend r, 0, 0, 1; work 5;", ""} {
		m := alone(t, text)
		c := code(t, program(t, text))
		at, steps := 0, 0
		for ; steps < 1000; steps++ {
			isIn(t, m, 0, lang.State{Kind: lang.Ready, At: at})
			step(t, m, 0, 1)
			s, _ := m.State(0)
			if s.Kind == lang.Ended {
				if c[at].Op != lang.IEnd || s.At != at {
					t.Error(text, s)
				}
				break
			}
			switch c[at].Op {
			case lang.IJump:
				at = int(c[at].Arg)
			case lang.IZero: // whether the condition was 0 is seen by where the machine goes on
				if s.At != at+1 && s.At != int(c[at].Arg) {
					t.Error(text, at, s)
				}
				at = s.At
			default:
				at++
			}
		}
		if steps == 1000 {
			t.Error("it does not end:", text)
		}
	}
	for text, want := range map[string][]int64{
		"if 0 { print 1; } else { print 2; } print 3;":  {2, 3},
		"if 1 { print 1; } else { print 2; } print 3;":  {1, 3},
		"if -1 { print 1; } print 3;":                   {1, 3},
		"if 0 { print 1; } print 3;":                    {3},
		"while x < 3 { print x; x = x + 1; } print 9;":  {0, 1, 2, 9},
		"while 0 { print 1; } print 9;":                 {9},
		"x = 5; y = x; x = 6; print y; print x + rank;": {5, 6},
	} {
		m := alone(t, text)
		run(t, m, 0)
		prints(t, m, 0, want...)
	}
}

// P7.5: the errors with which processes fail.
func TestFailures(t *testing.T) {
	big := "1048577"
	for _, x := range []struct {
		text string
		e    api.Errno
	}{
		{"send 2, 0, 0;", api.ErrRank}, {"send 0 - 1, 0, 0;", api.ErrRank}, {"send 0 - 2, 0, 0;", api.ErrRank}, {"send 4294967296, 0, 0;", api.ErrRank}, {"isend r, 2, 0, 0;", api.ErrRank}, {"ssend 9223372036854775807, 0, 0;", api.ErrRank},
		{"recv x, 2, 0;", api.ErrRank}, {"recv x, 0 - 1, 0;", api.ErrRank}, {"recv x, 0 - 2, any;", api.ErrRank}, {"irecv r, x, 2, 0;", api.ErrRank}, {"irecv r, x, 0 - 1, 0;", api.ErrRank}, {"recv x, 4294967296, 0;", api.ErrRank},
		{"bcast x, 2;", api.ErrRank}, {"bcast x, 0 - 1;", api.ErrRank}, {"bcast x, 4294967296;", api.ErrRank},
		{"send 0, 0 - 1, 0;", api.ErrTag}, {"send 0, " + big + ", 0;", api.ErrTag}, {"isend r, 0, " + big + ", 0;", api.ErrTag}, {"recv x, 0, 0 - 1;", api.ErrTag}, {"recv x, any, " + big + ";", api.ErrTag}, {"irecv r, x, any, 0 - 1;", api.ErrTag}, {"send 0, 4294967296, 0;", api.ErrTag}, {"recv x, 0, 4294967296;", api.ErrTag},
		{"send 2, 0 - 1, 0;", api.ErrRank}, {"recv x, 2, 0 - 1;", api.ErrRank},
		{"wait r;", api.ErrState}, {"isend r, 0, 0, 0; isend r, 0, 0, 0;", api.ErrState}, {"irecv r, x, 0, 0; irecv r, x, 0, 0;", api.ErrState}, {"isend r, 0, 0, 0; irecv r, x, 0, 0;", api.ErrState}, {"irecv r, x, 0, 0; isend r, 0, 0, 0;", api.ErrState}, {"isend r, 0, 0, 0; wait r; wait r;", api.ErrState}, {"isend r, 0, 0, 0; wait s;", api.ErrState},
		{"isend r, 0, 0, 0; isend r, 2, 0, 0;", api.ErrRank}, {"isend r, 0, 0, 0; isend r, 0, " + big + ", 0;", api.ErrTag}, {"irecv r, x, 0, 0; irecv r, x, 2, 0;", api.ErrRank}, {"irecv r, x, 0, 0; irecv r, x, any, " + big + ";", api.ErrTag},
		{"work 0 - 1;", api.ErrRange}, {"work " + big + ";", api.ErrRange}, {"work 4294967296;", api.ErrRange},
		{"x = 1 / 0;", api.ErrArg}, {"x = 1 % 0;", api.ErrArg}, {"x = 9223372036854775807 + 1;", api.ErrOver}, {"x = -(-9223372036854775807 - 1);", api.ErrOver},
		{"while x < 1001 { print x; x = x + 1; }", api.ErrMany},
	} {
		m := machine(t, 2, 9, x.text, "")
		onward(t, m, 0)
		failed(t, m, 0, x.e)
		s, _ := m.State(0)
		if c := code(t, program(t, x.text)); c[s.At].Op == lang.IEnd {
			t.Error(x.text, s)
		}
		still(t, m, 0)
	}
	// just within the ranges
	for _, text := range []string{"send 1, 1048576, 0; send 0, 0, 0;", "recv x, 1, 1048576;", "irecv r, x, any, any; irecv s, x, 0, 0;", "work 0; work 1048576;", "isend r, 0, 0, 0; wait r; isend r, 0, 0, 0; wait r; irecv r, x, any, any; wait r;", "while x < 1000 { print x; x = x + 1; }"} {
		m := machine(t, 2, 9, text, "")
		onward(t, m, 0)
		m.Deliver(0, 0)
		m.Deliver(0, 0)
		onward(t, m, 0)
		if s, _ := m.State(0); s.Kind == lang.Failed {
			t.Error(text, s)
		}
	}
}

// P7.5, P7.6: what failed began nothing, and has no event.
func TestFailuresBeginNothing(t *testing.T) {
	for _, text := range []string{"send 2, 0, 0;", "recv x, any, 0 - 1;", "isend r, 0, 0 - 1, 0;", "irecv r, x, 2, 0;", "wait r;", "bcast x, 2;", "work 0 - 1;", "print 1 / 0;"} {
		m := machine(t, 2, 9, text, "")
		onward(t, m, 0)
		shows(t, m, 0)
		began(t, m, 0)
		prints(t, m, 0)
		for src := range 2 {
			for dst := range 2 {
				empty(t, m, src, dst)
			}
		}
	}
	m := machine(t, 2, 9, "reduce x, min;", "reduce x, max;")
	onward(t, m, 0)
	onward(t, m, 1)
	failed(t, m, 1, api.ErrConflict)
	began(t, m, 0, lang.Deed{Kind: lang.DMeet})
	began(t, m, 1)
	shows(t, m, 1)
}

// P7.5: a process prints 1000 numbers, and fails before it prints another one.
func TestOutputLimit(t *testing.T) {
	m := alone(t, "while 1 { print x; x = x + 1; }")
	run(t, m, 0)
	failed(t, m, 0, api.ErrMany)
	l, _ := m.Output(0)
	if len(l) != 1000 || l[999] != 999 {
		t.Error(len(l))
	}
	holds(t, m, 0, "x", 1000)
}

// P7.5: as many requests as there are names can be active.
func TestManyRequests(t *testing.T) {
	text := ""
	for i := range 30 {
		text += fmt.Sprintf("isend r%d, rank, %d, %d;", i, i, i*i)
	}
	for i := range 30 {
		text += fmt.Sprintf("recv x, rank, %d; print x;", i)
	}
	for i := range 30 {
		text += fmt.Sprintf("wait r%d;", 29-i)
	}
	m := machine(t, 1, 0, text)
	if r := run(t, m, 1); !r.Done {
		t.Fatal(r)
	}
	kinds(t, m, lang.Ended)
	l, _ := m.Deeds(0)
	for i := range 30 {
		if l[i] != (lang.Deed{Kind: lang.DIsend, Tag: i, Req: i}) || l[60+i] != (lang.Deed{Kind: lang.DWait, Req: 29 - i}) {
			t.Error(i, l[i], l[60+i])
		}
	}
}

// P7.5, P7.6: messages: their numbers for each destination, their values, and what is received.
func TestMessages(t *testing.T) {
	m := machine(t, 3, 9, "send 1, 4, 7; isend r, 1, 5, 0 - 8; send 2, 4, 9223372036854775807; ssend 1, 4, -9223372036854775807 - 1; send 0, 0, 3; recv x, 0, any;", "recv x, 0, 5; recv y, any, 4; irecv r, z, 0, any; wait r;", "recv x, any, any;")
	run(t, m, 4)
	kinds(t, m, lang.Ended, lang.Ended, lang.Ended)
	shows(t, m, 0,
		lang.Event{Kind: lang.ESend, Peer: 1, Tag: 4, No: 0, Value: 7}, lang.Event{Kind: lang.ESend, Peer: 1, Tag: 5, No: 1, Value: -8}, lang.Event{Kind: lang.ESend, Peer: 2, Tag: 4, No: 0, Value: most},
		lang.Event{Kind: lang.ESend, Peer: 1, Tag: 4, No: 2, Value: least}, lang.Event{Kind: lang.ESend, Peer: 0, Tag: 0, No: 0, Value: 3}, lang.Event{Kind: lang.ERecv, Peer: 0, Tag: 0, No: 0, Value: 3})
	shows(t, m, 1, lang.Event{Kind: lang.ERecv, Peer: 0, Tag: 5, No: 1, Value: -8}, lang.Event{Kind: lang.ERecv, Peer: 0, Tag: 4, No: 0, Value: 7, Wild: true}, lang.Event{Kind: lang.ERecv, Peer: 0, Tag: 4, No: 2, Value: least})
	shows(t, m, 2, lang.Event{Kind: lang.ERecv, Peer: 0, Tag: 4, No: 0, Value: most, Wild: true})
	began(t, m, 0,
		lang.Deed{Kind: lang.DSend, Peer: 1, Tag: 4}, lang.Deed{Kind: lang.DIsend, Peer: 1, Tag: 5}, lang.Deed{Kind: lang.DSend, Peer: 2, Tag: 4}, lang.Deed{Kind: lang.DSend, Peer: 1, Tag: 4, Sync: true},
		lang.Deed{Kind: lang.DSend, Peer: 0, Tag: 0}, lang.Deed{Kind: lang.DRecv, Peer: 0, Tag: api.AnyTag})
	began(t, m, 1, lang.Deed{Kind: lang.DRecv, Peer: 0, Tag: 5}, lang.Deed{Kind: lang.DRecv, Peer: api.AnySource, Tag: 4}, lang.Deed{Kind: lang.DIrecv, Peer: 0, Tag: api.AnyTag}, lang.Deed{Kind: lang.DWait})
	holds(t, m, 1, "x", -8)
	holds(t, m, 1, "y", 7)
	holds(t, m, 1, "z", least)
	holds(t, m, 2, "x", most)
}

// P7.5: messages of 16 bytes are eager up to this limit, with a credit, if they are not synchronous.
func TestEagerMessages(t *testing.T) {
	for _, x := range []struct {
		eager, credits int
		text           string
		done           bool
	}{
		{16, 1, "send 1, 0, 0;", true}, {15, 1, "send 1, 0, 0;", false}, {16, 0, "send 1, 0, 0;", false}, {16, 1, "ssend 1, 0, 0;", false}, {4096, 64, "ssend 1, 0, 0;", false},
		{16, 2, "send 1, 0, 0; send 1, 0, 0;", true}, {16, 1, "send 1, 0, 0; send 1, 0, 0;", false}, {0, 64, "isend r, 1, 0, 0;", true}, {0, 64, "isend r, 1, 0, 0; wait r;", false}, {16, 1, "isend r, 1, 0, 0; wait r;", true}, {16, 0, "send 0, 0, 0;", false},
	} {
		m := machineOf(t, programs(t, x.text, ""), 2, x.eager, x.credits)
		if r := run(t, m, 1); r.Done != x.done {
			t.Error(x, r)
		}
	}
}

// P7.5: the value of a request is stored when it was waited for, not before.
func TestValuesAreStoredLate(t *testing.T) {
	m := machine(t, 1, 1, "x = 1; irecv r, x, 0, 0; send 0, 0, 7; print x; x = 2; barrier; print x; wait r; print x;")
	run(t, m, 3)
	prints(t, m, 0, 1, 2, 7)
	shows(t, m, 0, lang.Event{Kind: lang.ESend, Value: 7}, lang.Event{Kind: lang.EMeet}, lang.Event{Kind: lang.ERecv, Value: 7})
}

// P7.5: meetings: barriers, broadcasts and reductions.
func TestMeetings(t *testing.T) {
	m := machine(t, 3, 0, "barrier; print 1;")
	for p := range 3 {
		step(t, m, p, 1)
		isIn(t, m, p, lang.State{Kind: lang.Meeting})
		if p < 2 {
			still(t, m, p)
		}
		shows(t, m, p)
		began(t, m, p, lang.Deed{Kind: lang.DMeet})
	}
	for _, p := range []int{1, 0, 2} {
		step(t, m, p, 1)
		isIn(t, m, p, lang.State{Kind: lang.Ready, At: 1})
		shows(t, m, p, lang.Event{Kind: lang.EMeet})
	}
	// one can be at the next meeting while others are still at this one
	m = machine(t, 2, 0, "x = rank + 1; bcast x, 1; print x; x = x + rank; bcast x, 0; print x; reduce x, sum; print x;")
	onward(t, m, 0)
	onward(t, m, 1)
	kinds(t, m, lang.Meeting, lang.Meeting)
	prints(t, m, 1, 2)
	onward(t, m, 0)
	kinds(t, m, lang.Meeting, lang.Meeting)
	prints(t, m, 0, 2, 2)
	onward(t, m, 1)
	onward(t, m, 0)
	for p := range 2 {
		prints(t, m, p, 2, 2, 4)
		shows(t, m, p, lang.Event{Kind: lang.EMeet, No: 0, Value: 2}, lang.Event{Kind: lang.EMeet, No: 1, Value: 2}, lang.Event{Kind: lang.EMeet, No: 2, Value: 4})
		began(t, m, p, lang.Deed{Kind: lang.DMeet}, lang.Deed{Kind: lang.DMeet}, lang.Deed{Kind: lang.DMeet})
	}
	for op, want := range map[string]int64{"sum": 6 + 1 + 12, "prod": 6 * 12, "min": 1, "max": 12, "and": 0, "or": 15, "xor": 11} {
		m = machine(t, 3, 0, "x = 6; reduce x, "+op+"; print x;", "y = 1; reduce y, "+op+"; print y;", "x = 12; reduce x, "+op+"; print x;")
		run(t, m, 2)
		for p := range 3 {
			prints(t, m, p, want)
		}
	}
	// the result wraps around
	m = machine(t, 2, 0, "x = 9223372036854775807; reduce x, sum; print x;")
	run(t, m, 2)
	prints(t, m, 0, -2)
	// a variable in which nothing was stored is 0
	m = machine(t, 2, 0, "if rank { x = 5; } bcast x, 0; print x;")
	run(t, m, 2)
	prints(t, m, 1, 0)
}

// P7.5: processes that do not agree on a meeting: whoever comes later fails, and the first one stays there.
func TestConflicts(t *testing.T) {
	all := []string{"barrier;", "bcast x, 0;", "bcast x, 1;", "reduce x, sum;", "reduce x, max;"}
	for i, a := range all {
		for k, b := range all {
			m := machine(t, 2, 0, a, b)
			onward(t, m, 0)
			onward(t, m, 1)
			onward(t, m, 0)
			if i == k {
				kinds(t, m, lang.Ended, lang.Ended)
				continue
			}
			kinds(t, m, lang.Meeting)
			failed(t, m, 1, api.ErrConflict)
			if r := run(t, m, 0); !r.Stuck {
				t.Error(r)
			}
		}
	}
	// other variables are no conflict
	m := machine(t, 2, 0, "x = 3; bcast x, 0;", "bcast y, 0; print y;")
	run(t, m, 0)
	prints(t, m, 1, 3)
	// a wrong root comes first
	m = machine(t, 2, 0, "barrier;", "bcast x, 2;")
	onward(t, m, 0)
	onward(t, m, 1)
	failed(t, m, 1, api.ErrRank)
	// a third one can still come, and fails only if it does not agree with the first one
	m = machine(t, 3, 0, "barrier;", "bcast x, 0;", "barrier;")
	for p := range 3 {
		onward(t, m, p)
	}
	kinds(t, m, lang.Meeting, lang.Failed, lang.Meeting)
	// the process that comes first says what it is
	onwardFirst := machine(t, 2, 0, "barrier;", "bcast x, 0;")
	onward(t, onwardFirst, 1)
	onward(t, onwardFirst, 0)
	kinds(t, onwardFirst, lang.Failed, lang.Meeting)
}

// P7.5: a meeting to which a process does not come, as it has ended.
func TestMeetingsAndEnds(t *testing.T) {
	m := machine(t, 2, 0, "barrier;", "")
	if r := run(t, m, 0); !r.Stuck {
		t.Error(r)
	}
	kinds(t, m, lang.Meeting, lang.Ended)
}

// P7.6: work.
func TestWork(t *testing.T) {
	m := alone(t, "work 5; work rank; work 1048576;")
	run(t, m, 0)
	shows(t, m, 0, lang.Event{Kind: lang.EWork, Value: 5}, lang.Event{Kind: lang.EWork}, lang.Event{Kind: lang.EWork, Value: 1048576})
	began(t, m, 0)
	prints(t, m, 0)
}
