package dead_test

import (
	"slices"
	"testing"

	"armada/api"
	"armada/dead"
	"armada/lang"
)

// R3: nil lists are empty ones.
func TestNilLists(t *testing.T) {
	for _, none := range [][]lang.Deed{nil, {}} {
		c := [][]lang.Deed{none, deeds("recv 0/0"), none}
		checks(t, c, api.OK)
		narrows(t, c, c)
		blocked(t, c, 0, dead.Block{Process: 1, At: 0, For: []int{0}})
		finishes(t, [][]lang.Deed{none, none}, 0)
		decides(t, [][]lang.Deed{none}, dead.Free, 0)
		checks(t, [][]lang.Deed{none, deeds("send 9/9")}, api.ErrArg)
	}
	for _, schedule := range [][]int{nil, {}} {
		follows(t, caseC(), 0, schedule, false, 0, 0)
	}
	for _, none := range [][]lang.Node{nil, {}} {
		c, e := dead.Trace([][]lang.Node{none}, 3)
		if len(c) != 3 || len(c[2]) > 0 || e != api.OK {
			t.Error(c, e)
		}
	}
	for _, none := range [][][]lang.Node{nil, {}} {
		if c, e := dead.Trace(none, 1); len(c) > 0 || e != api.ErrShape {
			t.Error(c, e)
		}
	}
}

// oddNumbers returns numbers at the edges of all ranges.
func oddNumbers() []int {
	return []int{lowest, lowest + 1, -1 << 32, -2, -1, 0, 1, 2, 3, 4, 7, 64, 65, 200, 201, api.MaxTag, api.MaxTag + 1, 1 << 32, highest - 1, highest}
}

// P0: no call panics or goes on forever, whatever its arguments are; a call with an error returns nothing else.
func TestAllArguments(t *testing.T) {
	d := dice(90)
	odd := oddNumbers()
	for i := range 60000 {
		c := make([][]lang.Deed, d.roll(4))
		for p := range c {
			for range d.roll(4) {
				x := lang.Deed{Kind: 1 + d.roll(6)}
				for _, f := range []*int{&x.Kind, &x.Peer, &x.Tag, &x.Req} {
					if d.often(1 + i%7) {
						*f = pick(&d, odd...)
					}
				}
				x.Sync = d.often(9)
				c[p] = append(c[p], x)
			}
		}
		callAll(t, c, pick(&d, odd...), []int{d.roll(3), pick(&d, odd...)})
	}
}

// callAll calls all functions with a case, and fails unless those with an error return nothing else.
func callAll(t *testing.T, c [][]lang.Deed, room int, schedule []int) {
	t.Helper()
	e := dead.Check(c)
	l, open, f := dead.Narrow(c)
	v, g := dead.Decide(c)
	if e != f || e != g || (len(l) > 0) != open || open && e != api.OK || (v == dead.Verdict{}) != (e != api.OK) {
		t.Fatal(c, e, f, g, l, open, v)
	}
	ends, e := dead.End(c, room)
	blocks, f := dead.Blocks(c, room)
	cycle, g := dead.Cycle(c, room)
	shown, h := dead.Show(c, room)
	if e != f || e != g || e != h || (len(ends) > 0) != (e == api.OK) || e != api.OK && len(blocks)+len(cycle)+len(shown) > 0 {
		t.Fatal(c, e, f, g, h, ends, blocks, cycle, shown)
	}
	behind, over, f := dead.Follow(c, room, schedule)
	if e != api.OK && f != e || f != api.OK && (over || len(behind) > 0) {
		t.Fatal(c, e, f, behind, over)
	}
}

// P0: programs and numbers of processes of which there is no case.
func TestAllPrograms(t *testing.T) {
	l := programs(t, "send 1 - rank, 0, rank; recv x, 1 - rank, 0;")
	for _, n := range oddNumbers() {
		c, e := dead.Trace(l, n)
		if (e == api.OK) != (len(c) == n && n > 0) {
			t.Error(n, len(c), e)
		}
	}
	for _, x := range []lang.Node{{}, {Op: -1}, {Op: lang.NSend}, {Op: lang.NIf}, {Op: lang.NRecv, Name: "x", Args: []lang.Node{{Op: lang.NAny}}}, {Op: lang.NInt, Value: 4}} {
		if c, e := dead.Trace([][]lang.Node{{x}}, 1); len(c) > 0 || e != api.ErrArg {
			t.Error(x, c, e)
		}
	}
}

// largest returns the largest case of processes that do the same: each does its deeds with all others in turn.
func largest(do func(p, round int) lang.Deed) [][]lang.Deed {
	c := make([][]lang.Deed, api.MaxRanks)
	for p := range c {
		for i := range dead.MaxDeeds {
			c[p] = append(c[p], do(p, i))
		}
	}
	return c
}

// P0: the largest cases.
func TestLargestCases(t *testing.T) {
	n := api.MaxRanks
	meet := largest(func(p, i int) lang.Deed { return lang.Deed{Kind: lang.DMeet} })
	finishes(t, meet, 0)
	decides(t, meet, dead.Free, 0)
	late := largest(func(p, i int) lang.Deed {
		if i < 100 {
			return lang.Deed{Kind: lang.DSend, Peer: (p + i) % n, Tag: i}
		}
		return lang.Deed{Kind: lang.DRecv, Peer: (p + n - (199-i)%n) % n, Tag: 199 - i}
	})
	decides(t, late, dead.Bound, 2)
	ring := largest(func(p, i int) lang.Deed {
		kind := []int{lang.DSend, lang.DRecv}[(i+min(p, 1))%2]
		return lang.Deed{Kind: kind, Peer: (p + map[int]int{lang.DSend: 1, lang.DRecv: n - 1}[kind]) % n, Tag: i / 2}
	})
	decides(t, ring, dead.Free, 0)
	shown, e := dead.Show(ring, 0)
	if len(shown) != n*dead.MaxDeeds || e != api.OK {
		t.Error(len(shown), e)
	}
	follows(t, ring, 0, shown, true, slices.Repeat([]int{dead.MaxDeeds}, n)...)
	waits := largest(func(p, i int) lang.Deed {
		switch {
		case i == 199:
			return lang.Deed{Kind: lang.DSend, Peer: (p + 1) % n, Tag: 1}
		}
		return lang.Deed{Kind: lang.DIsend, Peer: (p + 1) % n, Req: i}
	})
	decides(t, waits, dead.Bound, 200)
	shown, e = dead.Show(waits, 199)
	if len(shown) != n*199 || e != api.OK {
		t.Error(len(shown), e)
	}
	circles(t, waits, 199, upTo(n)...)
	wild := largest(func(p, i int) lang.Deed {
		if p > 0 {
			return lang.Deed{Kind: lang.DSend, Peer: 0, Tag: p}
		}
		return lang.Deed{Kind: lang.DRecv, Peer: api.AnySource, Tag: i % n}
	})
	l, ok, e := dead.Narrow(wild)
	if len(l) != n || !ok || l[0][63].Peer != 63 || l[0][64].Peer != 0 || e != api.OK {
		t.Error(ok, e)
	}
}

// upTo returns the numbers from 0 to n - 1.
func upTo(n int) []int {
	var l []int
	for i := range n {
		l = append(l, i)
	}
	return l
}

// P0: the largest programs of which there is a case.
func TestLargestTrace(t *testing.T) {
	s := "i = 0; while i < 40 { isend r, (rank + i) % size, i, rank; irecv q, x, (rank + size - i) % size, i; wait r; wait q; barrier; i = i + 1; }"
	c := traced(t, 20, s)
	for p, l := range c {
		if len(l) != 200 {
			t.Error(p, len(l))
		}
	}
	decides(t, c, dead.Free, 0)
}

// scratch overwrites a list.
func scratch[T any](l []T, x T) {
	l = l[:cap(l)]
	for i := range l {
		l[i] = x
	}
}

// R4: no argument is changed, and no result shares memory with it or with another result.
func TestResultsAreNew(t *testing.T) {
	for _, c := range [][][]lang.Deed{caseA(), caseC(), caseF(), caseG(), caseH(), of("recv 2/0", "recv 0/0", "meet, recv 1/0")} {
		want := copied(c)
		for range 2 {
			l, _, _ := dead.Narrow(c)
			for _, x := range l {
				scratch(x, lang.Deed{Kind: 99})
			}
			scratch(l, nil)
			dead.Decide(c)
			ends, _ := dead.End(c, 0)
			scratch(ends, -9)
			cycle, _ := dead.Cycle(c, 0)
			scratch(cycle, -9)
			shown, _ := dead.Show(c, 0)
			scratch(shown, -9)
			if !sameCase(c, want) {
				t.Fatal("a case has changed:", texts(c), texts(want))
			}
		}
	}
	schedule := []int{0, 1, 1}
	behind, _, _ := dead.Follow(caseC(), 0, schedule)
	scratch(behind, -9)
	if !slices.Equal(schedule, []int{0, 1, 1}) {
		t.Error(schedule)
	}
	blocks, _ := dead.Blocks(caseF(), 0)
	scratch(blocks[0].For, -9)
	blocked(t, caseF(), 0, dead.Block{Process: 0, At: 1, For: []int{1, 2}})
	l, _ := dead.Blocks(of("meet", "meet", ""), 0)
	scratch(l[0].For, -9)
	if !slices.Equal(l[1].For, []int{2}) {
		t.Error("the lists of two processes share memory:", l)
	}
	c := traced(t, 2, "barrier;")
	scratch(c[0], lang.Deed{Kind: 99})
	if texts(c[1:]) != "meet" || texts(traced(t, 2, "barrier;")) != "meet | meet" {
		t.Error("the deeds of two processes share memory")
	}
}

// R4: the lists of a case can share memory.
func TestSharedArguments(t *testing.T) {
	l := deeds("send 0/0, recv any/0, meet")
	c := [][]lang.Deed{l, l[2:], l[2:]}
	narrows(t, c, of("send 0/0, recv 0/0, meet", "meet", "meet"))
	decides(t, c, dead.Bound, 1)
	if texts([][]lang.Deed{l}) != "send 0/0, recv any/0, meet" {
		t.Error("the argument has changed")
	}
}

// P0: calls at the same time do not meet.
func TestCallsAtTheSameTime(t *testing.T) {
	c := caseG()
	l := programs(t, "send 1 - rank, 0, rank; recv x, 1 - rank, 0;")
	done := make(chan bool)
	for range 4 {
		go func() {
			v, _ := dead.Decide(c)
			traced, _ := dead.Trace(l, 2)
			done <- v == dead.Verdict{Kind: dead.Bound, Room: 1} && sameCase(traced, caseA())
		}()
	}
	for range 4 {
		if !<-done {
			t.Error("a call beside others has another result")
		}
	}
}
