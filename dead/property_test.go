package dead_test

import (
	"slices"
	"strconv"
	"strings"
	"testing"

	"armada/api"
	"armada/dead"
	"armada/lang"
)

// closedCases calls a function with cases at random, none of them open.
func closedCases(seed dice, n int, f func(d *dice, c [][]lang.Deed)) {
	for range n {
		c := randomCase(&seed, false)
		f(&seed, c)
	}
}

// end returns the end of a case, and fails if there is an error.
func end(t *testing.T, c [][]lang.Deed, room int) []int {
	t.Helper()
	l, e := dead.End(c, room)
	if e != api.OK {
		t.Fatal("End", texts(c), room, e)
	}
	return l
}

// P8.8: whatever schedule is followed, it leads to the end; so does that of Show.
func TestSchedules(t *testing.T) {
	closedCases(83, 3000, func(d *dice, c [][]lang.Deed) {
		room := d.roll(3)
		want := end(t, c, room)
		shown, e := dead.Show(c, room)
		is(t, "Show", e, api.OK)
		follows(t, c, room, shown, true, want...)
		for range 3 {
			follows(t, c, room, anySchedule(t, d, c, room), true, want...)
		}
	})
}

// anySchedule returns a schedule at random that leads as far as possible.
func anySchedule(t *testing.T, d *dice, c [][]lang.Deed, room int) []int {
	t.Helper()
	var l []int
	for {
		_, over, e := dead.Follow(c, room, l)
		is(t, "Follow", e, api.OK)
		if over {
			return l
		}
		for {
			next := append(l, d.roll(len(c)))
			if _, _, e := dead.Follow(c, room, next); e == api.OK {
				l = next
				break
			}
		}
	}
}

// P8.8: who can go on can do so later as well, whatever the others do in between.
func TestWhoCanGoOnStaysAble(t *testing.T) {
	closedCases(84, 2000, func(d *dice, c [][]lang.Deed) {
		room := d.roll(3)
		l := anySchedule(t, d, c, room)
		able := map[int]bool{}
		for i := range l {
			for p := range c {
				_, _, e := dead.Follow(c, room, append(slices.Clone(l[:i]), p))
				if able[p] && e != api.OK {
					t.Fatal(texts(c), l[:i], p)
				}
				able[p] = e == api.OK
			}
			able[l[i]] = false
		}
	})
}

// P8.9: with more room no process comes less far; the room of a verdict is the least one that is enough.
func TestRoom(t *testing.T) {
	closedCases(85, 5000, func(d *dice, c [][]lang.Deed) {
		v, e := dead.Decide(c)
		is(t, "Decide", e, api.OK)
		before := end(t, c, 0)
		for room := range 12 {
			now := end(t, c, room)
			whole := true
			for p, l := range c {
				if now[p] < before[p] {
					t.Fatal(texts(c), "with room", room, now, "and before", before)
				}
				whole = whole && now[p] == len(l)
			}
			if whole != (v.Kind == dead.Free || v.Kind == dead.Bound && room >= v.Room) {
				t.Fatal(texts(c), "with room", room, now, v)
			}
			before = now
		}
		if !slices.Equal(before, end(t, c, highest)) {
			t.Fatal(texts(c), "with unlimited room")
		}
	})
}

// P8.11: in a cycle each process waits for the next one; who waits for no blocked process waits for one that has come to its end.
func TestWaiting(t *testing.T) {
	cycles := 0
	closedCases(86, 8000, func(d *dice, c [][]lang.Deed) {
		room := d.roll(2)
		blocks, e := dead.Blocks(c, room)
		is(t, "Blocks", e, api.OK)
		waits := map[int][]int{}
		for _, b := range blocks {
			waits[b.Process] = b.For
		}
		now := end(t, c, room)
		for _, b := range blocks {
			isBlocked := func(p int) bool { return waits[p] != nil }
			isOver := func(p int) bool { return now[p] == len(c[p]) }
			if !slices.ContainsFunc(b.For, isBlocked) && !slices.ContainsFunc(b.For, isOver) || now[b.Process] != b.At {
				t.Fatal(texts(c), blocks, now)
			}
		}
		cycle, e := dead.Cycle(c, room)
		is(t, "Cycle", e, api.OK)
		for i, p := range cycle {
			if !slices.Contains(waits[p], cycle[(i+1)%len(cycle)]) {
				t.Fatal(texts(c), blocks, cycle)
			}
		}
		cycles += min(len(cycle), 1)
	})
	if cycles < 500 {
		t.Error("too few cycles:", cycles)
	}
}

// programOf returns the text of a program that does the deeds of a process.
func programOf(d *dice, l []lang.Deed) string {
	var b strings.Builder
	write := func(words ...string) { b.WriteString(strings.Join(words, "") + " ") }
	for _, x := range l {
		peer, tag, request := expr(d, x.Peer), expr(d, x.Tag), "r"+strconv.Itoa(x.Req)
		switch x.Kind {
		case lang.DSend:
			write(map[bool]string{true: "ssend ", false: "send "}[x.Sync], peer, ",", tag, ", x;")
		case lang.DRecv:
			write("recv x, ", peer, ",", tag, ";")
		case lang.DIsend:
			write("isend ", request, ",", peer, ",", tag, ", x + 1;")
		case lang.DIrecv:
			write("irecv ", request, ", y,", peer, ",", tag, ";")
		case lang.DWait:
			write("wait ", request, ";")
		case lang.DMeet:
			write("barrier;")
		}
		if d.often(4) {
			write(pick(d, "print x;", "work 3;", "y = y / 2 + rank;", "if rank > size { barrier; }"))
		}
	}
	return b.String()
}

// expr returns an expression with a value; -1 is that of any.
func expr(d *dice, v int) string {
	switch {
	case v == -1:
		return "any"
	case d.often(3):
		return "(rank - rank + " + strconv.Itoa(v) + ")"
	}
	return strconv.Itoa(v)
}

// runs returns what becomes of a run.
func runs(t *testing.T, l [][]lang.Node, n, eager, credits int, seed uint64) lang.Result {
	t.Helper()
	m, e := lang.New(l, n, eager, credits)
	if e != api.OK {
		t.Fatal("New", e)
	}
	r, e := m.Run(seed, lang.MaxSteps)
	if e != api.OK || r.Done == r.Stuck {
		t.Fatal("Run", r, e)
	}
	return r
}

// P8.2: the case of programs that come to their ends is what they do; otherwise it is a beginning of that.
func TestTraceOfCases(t *testing.T) {
	stuck := 0
	closedCases(87, 3000, func(d *dice, c [][]lang.Deed) {
		var l []string
		for p := range c {
			l = append(l, programOf(d, c[p]))
		}
		got := traced(t, len(c), l...)
		now := end(t, c, 64)
		for p := range c {
			if begun := min(now[p]+1, len(c[p])); !slices.Equal(got[p], c[p][:begun]) {
				t.Fatal(texts(c), "is traced as", texts(got))
			}
		}
		want, _ := dead.Decide(c)
		decides(t, got, want.Kind, want.Room)
		if want.Kind == dead.Stuck {
			stuck++
		}
	})
	if stuck < 300 {
		t.Error("too few are stuck:", stuck)
	}
}

// P8.10, G3: what the verdict says of programs is true for all runs.
func TestPrograms(t *testing.T) {
	kinds := map[int]int{}
	closedCases(88, 1500, func(d *dice, c [][]lang.Deed) {
		var texts []string
		for p := range c {
			texts = append(texts, programOf(d, c[p]))
		}
		kinds[holds(t, d, len(c), texts...)]++
	})
	for kind := dead.Free; kind <= dead.Stuck; kind++ {
		if kinds[kind] < 100 {
			t.Error("too few of the kind", kind, kinds)
		}
	}
}

// holds fails if a run of programs is not as the verdict says, and returns the kind of this.
func holds(t *testing.T, d *dice, n int, l ...string) int {
	t.Helper()
	v, e := dead.Decide(traced(t, n, l...))
	is(t, "Decide", e, api.OK)
	for range 6 {
		eager, credits := pick(d, 0, 15, 16, 4096), pick(d, 0, 1, 2, 64)
		r := runs(t, programs(t, l...), n, eager, credits, uint64(d.roll(1000)))
		if v.Kind == dead.Free && !r.Done || v.Kind == dead.Stuck && r.Done {
			t.Fatalf("%q with %d and %d: %+v, but the verdict is %+v", l, eager, credits, r, v)
		}
		r = runs(t, programs(t, l...), n, 16, 0, uint64(d.roll(1000)))
		if v.Kind == dead.Bound && r.Done {
			t.Fatalf("%q without credits: %+v, but the verdict is %+v", l, r, v)
		}
		r = runs(t, programs(t, l...), n, 16, 64, uint64(d.roll(1000)))
		if v.Kind == dead.Bound && !r.Done {
			t.Fatalf("%q with 64 credits: %+v, but the verdict is %+v", l, r, v)
		}
	}
	return v.Kind
}

// P8.10, G3: programs with loops and choices.
func TestProgramsWithLoops(t *testing.T) {
	d := dice(89)
	for _, x := range []struct {
		text string
		n    int
		kind int
	}{
		{"i = 0; while i < 3 { if rank % 2 == 0 { send (rank + 1) % size, i, rank; recv x, (rank + size - 1) % size, any; } else { recv x, (rank + size - 1) % size, i; send (rank + 1) % size, i, x; } i = i + 1; }", 4, dead.Free},
		{"i = 0; while i < 3 { send (rank + 1) % size, i, rank; recv x, (rank + size - 1) % size, any; i = i + 1; }", 3, dead.Bound},
		{"i = 0; while i < 3 { recv x, (rank + size - 1) % size, any; send (rank + 1) % size, i, rank; i = i + 1; }", 3, dead.Stuck},
		{"if rank == 0 { print 1 / 0; } else { barrier; }", 2, dead.Stuck},
		{"if rank == 0 { isend r, 1, 0, 1; print 1 / 0; } else { recv x, 0, 0; }", 2, dead.Free},
		{"x = rank; reduce x, max; bcast x, 0; if x == 2 { send 0, 0, 0; } if rank == 0 { recv y, 0, 0; recv y, 1, 0; recv y, 2, 0; }", 3, dead.Bound},
		{"x = rank; reduce x, max; bcast x, 0; if x == 1 { send 0, 0, 0; } if rank == 0 { recv y, 0, 0; recv y, 1, 0; recv y, 2, 0; }", 3, dead.Stuck},
	} {
		if kind := holds(t, &d, x.n, x.text); kind != x.kind {
			t.Errorf("the verdict of %q is %d", x.text, kind)
		}
	}
}
