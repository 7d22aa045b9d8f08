package plan_test

import (
	"slices"
	"testing"

	"armada/api"
	"armada/coll"
	"armada/plan"
)

// The rows of the chapter's table of examples.
func TestExampleSpread(t *testing.T) {
	if l, e := plan.Spread(torus(2, 2, 2), 5); !slices.Equal(l, []int{0, 2, 6, 4, 1}) || e != api.OK {
		t.Error(l, e)
	}
}

func TestExampleMeasure(t *testing.T) {
	x := task(coll.Bcast, 4, 0, 2)
	measures(t, exampleMachine(), made(t, x, coll.Linear), [5]int{3, 4, 6, 0, 46})
	measures(t, exampleMachine(), made(t, x, coll.Tree), [5]int{2, 3, 6, 0, 35})
}

func TestExampleBound(t *testing.T) {
	isBound(t, exampleMachine(), task(coll.Bcast, 4, 0, 2), [5]int{2, 2, 2, 0, 26}, [2]int{0, 2}, in(1))
	l := bound(t, exampleMachine(), task(coll.Allreduce, 4, 0, 1))
	if got := [4]int{l.Rounds, l.Hops, l.Words, l.Joins}; got != [4]int{2, 2, 2, 2} {
		t.Error(l)
	}
}

func TestExampleWords(t *testing.T) {
	m := exampleMachine()
	x := task(coll.Alltoall, 4, 0, 1)
	if n := words(t, m, x, in(0)); n != 3 {
		t.Error(n)
	}
	if n := words(t, m, x, cut(side(m.Net, 0, 1))); n != 2 {
		t.Error(n)
	}
	if n := words(t, m, halo(1, -2, -2), in(0)); n != 2 {
		t.Error(n)
	}
}

func TestExampleChoose(t *testing.T) {
	m := exampleMachine()
	c := chosen(t, m, task(coll.Allreduce, 4, 0, 1))
	if c.Alg != coll.Doubling || c.Totals != totals([5]int{2, 3, 3, 2, 31}) {
		t.Error(c)
	}
	verifies(t, m, c, api.OK)
	cheaper := c
	cheaper.Totals.Cost--
	verifies(t, m, cheaper, api.ErrBound)
	less := c
	less.Low.Joins--
	less.Low = priced(m, less.Low)
	verifies(t, m, less, api.OK)
	more := c
	more.Low.Words++
	more.Low = priced(m, more.Low)
	verifies(t, m, more, api.ErrBound)
}
