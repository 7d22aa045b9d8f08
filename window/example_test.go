package window_test

import (
	"testing"

	"armada/api"
)

// P11.1, P11.3, P11.4: the rows of the chapter's table, and that all results are the same with each seed where nothing races.
func TestExamples(t *testing.T) {
	p := of(1, acts(fence, put(1, 0, 5), fence), acts(fence, fence, load(0)))
	racesAre(t, p)
	runIs(t, p, result{Values: rows(nil, row(5)), Memory: rows(row(0), row(5))})
	racesAre(t, of(1, acts(fence, put(1, 0, 5), fence), acts(fence, load(0), fence)), race(0, 1, 1, 1))

	p = of(1, acts(start(1), put(1, 0, 7), complete), acts(post(0), wait, load(0)))
	racesAre(t, p)
	runIs(t, p, result{Values: rows(nil, row(7)), Memory: rows(row(0), row(7))})

	p = of(1, acts(fence, acc(1, 0, api.OpSum, 2), fence), acts(fence, acc(1, 0, api.OpSum, 3), fence))
	racesAre(t, p)
	runIs(t, p, result{Values: rows(nil, nil), Memory: rows(row(0), row(5))})
	p = of(1, acts(fence, fetch(1, 0, api.OpSum, 2), fence), acts(fence, fetch(1, 0, api.OpSum, 3), fence))
	racesAre(t, p, race(0, 1, 1, 1))

	racesAre(t, of(1, acts(fence, put(1, 0, 1), put(1, 0, 2), fence), acts(fence, fence)), race(0, 1, 0, 2))
	p = of(1, acts(fence, acc(1, 0, api.OpSum, 1), acc(1, 0, api.OpProd, 3), fence), acts(fence, fence))
	racesAre(t, p)
	runIs(t, p, result{Values: rows(nil, nil), Memory: rows(row(0), row(3))})

	racesAre(t, of(1, acts(lock(1), put(1, 0, 4), unlock(1)), acts(load(0))), race(0, 1, 1, 0))
	runIs(t, of(1, acts(fence), nil), result{Values: rows(nil, nil), Memory: rows(row(0), row(0)), Stuck: []int{0}})
}

// P11.1: the rows with errors.
func TestExamplesOfErrors(t *testing.T) {
	for _, x := range []struct {
		acts []act
		at   place
	}{
		{acts(put(1, 0, 1)), place{Index: 0}},
		{acts(fence, put(1, 0, 1)), place{Index: 1}},
		{acts(start(1), fence), place{Index: 1}},
		{acts(lock(1)), place{Index: 1}},
	} {
		fails(t, of(1, x.acts, nil), x.at, api.ErrState)
	}
}
