package dead_test

import (
	"testing"

	"armada/api"
	"armada/dead"
)

// The rows of the chapter's examples.

func TestExampleA(t *testing.T) {
	decides(t, caseA(), dead.Bound, 1)
	blocked(t, caseA(), 0, dead.Block{Process: 0, At: 0, For: []int{1}}, dead.Block{Process: 1, At: 0, For: []int{0}})
	ends(t, caseA(), 0, 0, 0)
	circles(t, caseA(), 0, 0, 1)
	finishes(t, caseA(), 1)
}

func TestExampleB(t *testing.T) {
	decides(t, caseB(), dead.Stuck, 0)
	for _, room := range []int{0, 1, 5, highest} {
		circles(t, caseB(), room, 0, 1)
		ends(t, caseB(), room, 0, 0)
	}
}

func TestExampleC(t *testing.T) {
	decides(t, caseC(), dead.Free, 0)
	shows(t, caseC(), 0, 0, 0, 1, 0, 1, 1)
	finishes(t, caseC(), 0)
	follows(t, caseC(), 0, []int{0, 1, 1}, false, 1, 2)
	followFails(t, caseC(), 0, []int{0, 0, 0}, api.ErrState)
}

func TestExampleD(t *testing.T) {
	decides(t, caseD(), dead.Bound, 2)
	ends(t, caseD(), 1, 1, 0)
	circles(t, caseD(), 1, 0, 1)
	finishes(t, caseD(), 2)
}

func TestExampleE(t *testing.T) {
	decides(t, caseE(), dead.Stuck, 0)
	blocked(t, caseE(), 0, dead.Block{Process: 0, At: 0, For: []int{1}})
	circles(t, caseE(), 0)
}

func TestExampleF(t *testing.T) {
	decides(t, caseF(), dead.Stuck, 0)
	blocked(t, caseF(), 0, dead.Block{Process: 0, At: 1, For: []int{1, 2}})
	circles(t, caseF(), 0)
}

func TestExampleG(t *testing.T) {
	narrows(t, caseG(), of("recv 1/3", "send 0/3", "send 0/4"))
	decides(t, caseG(), dead.Bound, 1)
}

func TestExampleH(t *testing.T) {
	staysOpen(t, caseH())
}

func TestExampleTrace(t *testing.T) {
	c := traced(t, 2, "send 1 - rank, 0, rank; recv x, 1 - rank, 0; print x;")
	if !sameCase(c, caseA()) {
		t.Error(texts(c))
	}
	decides(t, c, dead.Bound, 1)
}
