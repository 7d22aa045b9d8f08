package window_test

import (
	"slices"
	"testing"

	"armada/api"
	"armada/window"
)

const (
	highest = int(^uint(0) >> 1)
	lowest  = -highest - 1
	most    = int64(highest)
	least   = -most - 1
)

type (
	act     = window.Act
	place   = window.Place
	program = window.Program
	result  = window.Result
)

var fence, complete, wait = act{Kind: window.Fence}, act{Kind: window.Complete}, act{Kind: window.Wait}

func put(rank, at int, value int64) act {
	return act{Kind: window.Put, Rank: rank, At: at, Value: value}
}

func get(rank, at int) act { return act{Kind: window.Get, Rank: rank, At: at} }

func acc(rank, at, op int, value int64) act {
	return act{Kind: window.Acc, Rank: rank, At: at, Op: op, Value: value}
}

func fetch(rank, at, op int, value int64) act {
	return act{Kind: window.Fetch, Rank: rank, At: at, Op: op, Value: value}
}

func swap(rank, at int, value, other int64) act {
	return act{Kind: window.Swap, Rank: rank, At: at, Value: value, Other: other}
}

func load(at int) act { return act{Kind: window.Load, At: at} }

func store(at int, value int64) act { return act{Kind: window.Store, At: at, Value: value} }

func post(group ...int) act { return act{Kind: window.Post, Group: group} }

func start(group ...int) act { return act{Kind: window.Start, Group: group} }

func lock(rank int) act { return act{Kind: window.Lock, Rank: rank} }

func share(rank int) act { return act{Kind: window.Share, Rank: rank} }

func flush(rank int) act { return act{Kind: window.Flush, Rank: rank} }

func unlock(rank int) act { return act{Kind: window.Unlock, Rank: rank} }

// acts is a list of actions.
func acts(l ...act) []act { return l }

// of returns a program of processes with a number of cells.
func of(cells int, l ...[]act) program { return program{Cells: cells, Acts: l} }

// checks calls Check, which has to return a place and an error.
func checks(t *testing.T, p program, at place, want api.Errno) {
	t.Helper()
	if got, e := window.Check(p); got != at || e != want {
		t.Errorf("Check(%v): %v, %d, want %v, %d", p, got, e, at, want)
	}
}

// fails reports with which error and where a program fails; the other functions return the same error, and nothing else.
func fails(t *testing.T, p program, at place, want api.Errno) {
	t.Helper()
	checks(t, p, at, want)
	before, e1 := window.Before(p, place{}, place{})
	races, e2 := window.Races(p)
	r, e3 := window.Run(p, 1)
	if e1 != want || e2 != want || e3 != want || before || len(races) > 0 || !isZero(r) {
		t.Errorf("%v: %d %d %d, want %d; %v %v %v", p, e1, e2, e3, want, before, races, r)
	}
}

func isZero(r result) bool { return len(r.Memory)+len(r.Values)+len(r.Stuck) == 0 }

// comes returns what Before returns.
func comes(t *testing.T, p program, x, y place) bool {
	t.Helper()
	is, e := window.Before(p, x, y)
	if e != api.OK {
		t.Fatalf("Before(%v, %v, %v): %d", p, x, y, e)
	}
	return is
}

// races returns what Races returns.
func races(t *testing.T, p program) [][2]place {
	t.Helper()
	l, e := window.Races(p)
	if e != api.OK {
		t.Fatalf("Races(%v): %d", p, e)
	}
	return l
}

// race returns the pair of two places.
func race(rank, index, rank2, index2 int) [2]place {
	return [2]place{{Rank: rank, Index: index}, {Rank: rank2, Index: index2}}
}

// racesAre says which accesses of a program race.
func racesAre(t *testing.T, p program, want ...[2]place) {
	t.Helper()
	if got := races(t, p); !slices.Equal(got, want) {
		t.Errorf("Races(%v): %v, want %v", p, got, want)
	}
}

// runs returns the result of a run.
func runs(t *testing.T, p program, seed uint64) result {
	t.Helper()
	r, e := window.Run(p, seed)
	if e != api.OK || len(r.Memory) != len(p.Acts) || len(r.Values) != len(p.Acts) {
		t.Fatalf("Run(%v, %d): %v, %d", p, seed, r, e)
	}
	return r
}

// runIs says what the result of a run with some seeds is.
func runIs(t *testing.T, p program, want result, seeds ...uint64) {
	t.Helper()
	for _, seed := range append(seeds, 0, 1, 2, 3, 1<<63, 1<<64-1) {
		if got := runs(t, p, seed); !sameResult(got, want) {
			t.Errorf("Run(%v, %d): %v, want %v", p, seed, got, want)
		}
	}
}

func sameRows(a, b [][]int64) bool { return slices.EqualFunc(a, b, slices.Equal) }

// sameResult reports whether two results are the same.
func sameResult(a, b result) bool {
	return sameRows(a.Values, b.Values) && sameRows(a.Memory, b.Memory) && slices.Equal(a.Stuck, b.Stuck)
}

// row is a list of values.
func row(l ...int64) []int64 { return l }

// rows is a list of lists of values.
func rows(l ...[]int64) [][]int64 { return l }

// places yields all places of a program.
func places(p program) []place {
	var l []place
	for rank := range p.Acts {
		for index := range p.Acts[rank] {
			l = append(l, place{Rank: rank, Index: index})
		}
	}
	return l
}

// copied returns a copy of a program that shares no memory with it.
func copied(p program) program {
	q := program{Cells: p.Cells, Acts: make([][]act, len(p.Acts))}
	for rank, l := range p.Acts {
		q.Acts[rank] = slices.Clone(l)
		for i := range l {
			q.Acts[rank][i].Group = slices.Clone(l[i].Group)
		}
	}
	return q
}

func sameAct(a, b act) bool {
	group := slices.Equal(a.Group, b.Group)
	return group && a.Kind == b.Kind && a.Rank == b.Rank && a.At == b.At && a.Op == b.Op && a.Value == b.Value && a.Other == b.Other
}

// sameProgram reports whether two programs are the same.
func sameProgram(p, q program) bool {
	return p.Cells == q.Cells && slices.EqualFunc(p.Acts, q.Acts, func(a, b []act) bool { return slices.EqualFunc(a, b, sameAct) })
}

// truth returns 1 for true and 0 for false.
func truth(is bool) int {
	if is {
		return 1
	}
	return 0
}

// generator is that of chapter 5.
type generator uint64

// draw draws a number below n.
func (g *generator) draw(n int) int {
	*g = 6364136223846793005*(*g) + 1442695040888963407
	return int(uint64(*g) / (1 << 33) % uint64(n))
}

// dice yields the same numbers in each run of the tests.
type dice uint64

// roll returns a number from 0 to n - 1.
func (d *dice) roll(n int) int {
	*d = *d*6364136223846793005 + 1442695040888963407
	return int(uint64(*d)>>33) % n
}

// often returns true once in n times.
func (d *dice) often(n int) bool { return d.roll(n) == 0 }

// pick returns one of some elements.
func pick[T any](d *dice, l ...T) T { return l[d.roll(len(l))] }
