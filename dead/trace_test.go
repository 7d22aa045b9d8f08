package dead_test

import (
	"strconv"
	"strings"
	"testing"

	"armada/api"
	"armada/dead"
	"armada/lang"
)

// P8.2: the errors of lang.New come first.
func TestTraceErrorsOfNew(t *testing.T) {
	for _, n := range []int{0, -1, 65, lowest, highest} {
		traceFails(t, api.ErrRange, n, "recv x, any, 0;")
	}
	traceFails(t, api.ErrShape, 3, "recv x, any, 0;", "")
	traceFails(t, api.ErrShape, 2)
	wild := program(t, "recv x, any, 0;")
	for _, want := range []struct {
		node lang.Node
		e    api.Errno
	}{{lang.Node{Op: 99}, api.ErrArg}, {lang.Node{Op: lang.NPrint, Args: []lang.Node{deep(8)}}, api.ErrDeep}} {
		if c, e := dead.Trace([][]lang.Node{wild, {want.node}}, 2); len(c) > 0 || e != want.e {
			t.Error(c, e, "not", want.e)
		}
	}
}

// deep returns an expression with a depth.
func deep(depth int) lang.Node {
	n := lang.Node{Op: lang.NRank}
	for range depth - 1 {
		n = lang.Node{Op: lang.NNeg, Args: []lang.Node{n}}
	}
	return n
}

// P8.2: a program that is wild, also where it never comes to that.
func TestTraceWild(t *testing.T) {
	traceFails(t, api.ErrState, 1, "recv x, any, 0;")
	traceFails(t, api.ErrState, 2, "", "irecv r, x, any, 0;")
	traceFails(t, api.ErrState, 2, "if 0 { recv x, any, any; }")
	traceFails(t, api.ErrState, 1, "while 1 { if 0 { recv x, any, 0; } }")
	traceFails(t, api.ErrState, 3, "recv x, any, 0;", "barrier;", "bcast x, 0;")
	if c := traced(t, 2, "send 1, 5, 0;", "recv x, 0, any;"); texts(c) != "send 1/5 | recv 0/any" {
		t.Error(texts(c))
	}
}

// P8.2: the deeds of all processes, of all kinds.
func TestTraceDeeds(t *testing.T) {
	for _, x := range []struct {
		n        int
		programs string
		want     string
	}{
		{1, "", ""},
		{2, "x = 1; print x; work 5; | if 1 { }", " | "},
		{2, "isend r, 1, 5, 7; ssend 1, 6, 7; barrier; wait r; reduce x, sum; | irecv s, x, 0, 6; irecv r, y, 0, any; barrier; reduce x, sum; wait r; wait s;",
			"isend 1/5, ssend 1/6, meet, wait 0, meet | irecv 0/6, irecv 0/any, meet, meet, wait 1, wait 0"},
		{3, "i = 0; while i < 2 { send (rank + 1) % size, i, rank; recv x, (rank + 2) % 3, i; i = i + 1; }",
			"send 1/0, recv 2/0, send 1/1, recv 2/1 | send 2/0, recv 0/0, send 2/1, recv 0/1 | send 0/0, recv 1/0, send 0/1, recv 1/1"},
		{2, "isend r, 0, 1, 1; wait r; isend r, 0, 2, 1; isend s, 0, 3, 1; wait s; wait r; | ", "isend 0/1, wait 0, isend 0/2, isend 0/3, wait 2, wait 1 | "},
	} {
		l := strings.Split(x.programs, "|")
		if c := traced(t, x.n, l...); texts(c) != x.want {
			t.Errorf("Trace of %q is %s, not %s", x.programs, texts(c), x.want)
		}
	}
}

// P8.2: a run that is stuck has a case, too: with the deeds that were begun.
func TestTraceStuck(t *testing.T) {
	c := traced(t, 2, "recv x, 1 - rank, 3; send 1 - rank, 3, x; print x;")
	if texts(c) != "recv 1/3 | recv 0/3" {
		t.Error(texts(c))
	}
	decides(t, c, dead.Stuck, 0)
	c = traced(t, 3, "if rank < 2 { barrier; } send rank, 0, 0; barrier;")
	if texts(c) != "meet, send 0/0, meet | meet, send 1/0, meet | send 2/0, meet" {
		t.Error(texts(c))
	}
	decides(t, c, dead.Stuck, 0)
	if c := traced(t, 2, "ssend 0, 1, 2; print 1 / 0;", "print 1 / 0; barrier;"); texts(c) != "ssend 0/1 | " {
		t.Error(texts(c))
	}
}

// P8.2: processes that fail with other errors than ErrConflict have done what they have begun.
func TestTraceFailed(t *testing.T) {
	for _, fault := range []string{"print 1 / 0;", "send size, 0, 0;", "send 0, 0 - 1, 0;", "wait r;", "work 0 - 1;", "x = 9223372036854775807 + 1;"} {
		c := traced(t, 2, "send rank, 4, 0; "+fault+" barrier; isend r, 0, 0, 0;")
		if texts(c) != "send 0/4 | send 1/4" {
			t.Error(fault, texts(c))
		}
	}
}

// P8.2: a run that goes on for more than MaxSteps.
func TestTraceSteps(t *testing.T) {
	traceFails(t, api.ErrMany, 1, "while 1 { }")
	traceFails(t, api.ErrMany, 64, "if rank == 63 { while 1 { } }")
	loop := "while i < 11110 { i = i + 1; } "
	for _, x := range []struct {
		more  string
		steps int
	}{{"work 0; x = -1;", lang.MaxSteps}, {"work 0; work 0; work 0;", lang.MaxSteps + 1}} {
		l := programs(t, loop+x.more)
		if n := steps(t, l); n != x.steps {
			t.Fatal("the program has", n, "steps")
		}
		want := api.OK
		if x.steps > lang.MaxSteps {
			want = api.ErrMany
		}
		if c, e := dead.Trace(l, 1); e != want || (e == api.OK) != (len(c) == 1) {
			t.Error(x.steps, c, e)
		}
	}
}

// P8.2: the run has the seed 0: other seeds have other numbers of steps.
func TestTraceSeed(t *testing.T) {
	differ := map[bool]int{}
	for i := range 8 {
		l := programs(t, many("send 1 - rank, 0, i; recv x, 1 - rank, 0;", 60)+many("", 5386+i))
		done := func(seed uint64) bool {
			m, _ := lang.New(l, 2, 16, 64)
			r, e := m.Run(seed, lang.MaxSteps)
			is(t, "Run", e, api.OK)
			return r.Done
		}
		want := done(0)
		if want != done(1) {
			differ[want]++
		}
		if c, e := dead.Trace(l, 2); (e == api.OK) != want || e != api.OK && (e != api.ErrMany || len(c) > 0) {
			t.Error(i, e, want)
		}
	}
	if differ[true]+differ[false] == 0 {
		t.Error("the seed makes no difference:", differ)
	}
}

// steps returns how many steps the run of a process has.
func steps(t *testing.T, l [][]lang.Node) int {
	t.Helper()
	m, e := lang.New(l, 1, 16, 64)
	if e != api.OK {
		t.Fatal(e)
	}
	for n := 0; ; {
		r, _ := m.Run(0, 1000)
		if n += r.Steps; r.Done {
			return n
		}
	}
}

// P8.2: ErrConflict comes after a run that is too long, and before too many deeds.
func TestTraceConflict(t *testing.T) {
	conflict := "if rank == 0 { barrier; } else { bcast x, 0; }"
	traceFails(t, api.ErrConflict, 2, conflict)
	traceFails(t, api.ErrConflict, 3, conflict)
	traceFails(t, api.ErrConflict, 3, "reduce x, sum;", "barrier;", "")
	traceFails(t, api.ErrConflict, 2, "barrier; reduce x, sum;", "barrier; bcast x, 0;")
	traceFails(t, api.ErrMany, 3, "barrier;", "bcast x, 0;", "while 1 { }")
	traceFails(t, api.ErrConflict, 3, "barrier;", "bcast x, 0;", many("isend r, 2, 0, 0; wait r;", 65))
	traceFails(t, api.ErrConflict, 3, "barrier;", "bcast x, 0;", many("isend r, i % 3, 0, 0; wait r;", 101))
}

// many returns the text of a program that does something many times, with i counting.
func many(s string, n int) string {
	return "i = 0; while i < " + strconv.Itoa(n) + " { " + s + " i = i + 1; }"
}

// P8.2: at most 64 messages from a process to another one.
func TestTraceMessages(t *testing.T) {
	for _, s := range []string{"send 1, 0, 0;", "isend r, 1, i, 0; wait r;"} {
		c := traced(t, 2, many(s, 64), "")
		if len(c[0]) < 64 {
			t.Error(len(c[0]))
		}
		traceFails(t, api.ErrMany, 2, many(s, 65), "")
		traceFails(t, api.ErrMany, 2, "", many(strings.ReplaceAll(s, "1,", "0,"), 65))
		traceFails(t, api.ErrMany, 2, "", many(s, 65))
	}
	traceFails(t, api.ErrMany, 2, many("ssend 1, 0, 0;", 65), many("recv x, 0, 0;", 65))
	traceFails(t, api.ErrMany, 2, many("send 1, 0, 0;", 33)+many("isend r, 1, 0, 0; wait r;", 32), "")
	c := traced(t, 3, many("send rank, 0, 0;", 64)+many("send (rank + 1) % size, 0, 0;", 64)+many("send (rank + 2) % size, 0, 0;", 64))
	if len(c) != 3 || len(c[2]) != 192 {
		t.Error(texts(c))
	}
}

// P8.2: at most MaxDeeds deeds of a process.
func TestTraceDeedsLimit(t *testing.T) {
	c := traced(t, 2, many("barrier;", 200))
	if len(c) != 2 || len(c[0]) != 200 || len(c[1]) != 200 {
		t.Error(texts(c))
	}
	traceFails(t, api.ErrMany, 2, many("barrier;", 201))
	traceFails(t, api.ErrMany, 2, "", many("isend r, i % 2, 0, 0; wait r;", 101))
	finishes(t, traced(t, 2, many("send 1, 0, 0;", 64)+many("barrier;", 136), many("recv x, 0, 0;", 64)+many("barrier;", 136)), 0)
	traceFails(t, api.ErrMany, 2, many("barrier;", 136), many("isend r, 1, 0, 0; wait r;", 34)+many("barrier;", 133))
}

// P8.2: messages of all programs are sent eagerly: a run with 64 messages that nobody receives is done.
func TestTraceIsEager(t *testing.T) {
	c := traced(t, 2, many("send 1 - rank, 0, 0;", 64)+many("recv x, 1 - rank, 0;", 64))
	if len(c[0]) != 128 || len(c[1]) != 128 {
		t.Error(texts(c))
	}
	decides(t, c, dead.Bound, 64)
}
