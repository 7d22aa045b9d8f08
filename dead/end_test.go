package dead_test

import (
	"testing"

	"armada/api"
	"armada/dead"
)

// P8.4: ErrState for a case that is open, and ErrRange for a room below 0, in this order; before the errors of a schedule.
func TestErrorsOfEnd(t *testing.T) {
	for _, x := range []struct {
		room int
		open bool
		want api.Errno
	}{{0, true, api.ErrState}, {-1, true, api.ErrState}, {-1, false, api.ErrRange}, {lowest, false, api.ErrRange}} {
		c := caseC()
		if x.open {
			c = of("meet", "send 1/0, irecv any/0, wait 0")
		}
		if l, e := dead.End(c, x.room); len(l) > 0 || e != x.want {
			t.Error("End", l, e)
		}
		if l, e := dead.Blocks(c, x.room); len(l) > 0 || e != x.want {
			t.Error("Blocks", l, e)
		}
		if l, e := dead.Cycle(c, x.room); len(l) > 0 || e != x.want {
			t.Error("Cycle", l, e)
		}
		if l, e := dead.Show(c, x.room); len(l) > 0 || e != x.want {
			t.Error("Show", l, e)
		}
		followFails(t, c, x.room, []int{9}, x.want)
	}
}

// P8.4: messages go on when they are matched, or when there is room.
func TestMessages(t *testing.T) {
	ends(t, of("send 1/0", ""), 0, 0, 0)
	ends(t, of("send 1/0", ""), 1, 1, 0)
	ends(t, of("ssend 1/0", ""), highest, 0, 0)
	ends(t, of(repeat("send 1/0", 5), ""), 3, 3, 0)
	ends(t, of(repeat("send 1/0", 5), "recv 0/0"), 3, 4, 1)
	ends(t, of(repeat("send 1/0", 5), "recv 0/1"), 3, 3, 0)
	ends(t, of("send 1/0, send 2/0, send 1/0", "", ""), 1, 2, 0, 0)
	ends(t, of("send 0/0, send 0/0, recv 0/0, recv 0/0"), 2, 4)
	ends(t, of("send 0/0, send 0/0, recv 0/0, recv 0/0"), 1, 1)
	finishes(t, of("ssend 1/0", "recv 0/0"), 0)
	finishes(t, of("recv 1/0", "send 0/0"), 0)
}

// P8.4: the messages that are not matched count, but not those that are synchronous, nor those behind.
func TestRoomIsTaken(t *testing.T) {
	ends(t, of("isend 1/0, isend 1/0, send 1/0", ""), 2, 2, 0)
	ends(t, of("isend 1/0, isend 1/0, send 1/0", "recv 0/0"), 2, 3, 1)
	ends(t, of("isend 1/0, isend 1/0, wait 0, wait 1", ""), 1, 3, 0)
	ends(t, of("isend 1/0, isend 1/0, wait 1, wait 0", ""), 1, 2, 0)
	ends(t, of("isend 1/0, isend 1/0, isend 1/0, wait 1, wait 2", ""), 2, 4, 0)
	ends(t, of("ssend 1/0, isend 1/1, wait 0", "recv 0/1, recv 0/0"), 5, 0, 0)
	ends(t, of("ssend 1/1", "irecv 0/2, wait 0"), 5, 0, 1)
}

// P8.4: each message, in its order, is matched with the first receive that it fits.
func TestMatching(t *testing.T) {
	finishes(t, of("ssend 1/1, ssend 1/2", "irecv 0/2, irecv 0/1, wait 0, wait 1"), 0)
	ends(t, of("ssend 1/1, ssend 1/2", "irecv 0/2, irecv 0/1, wait 0, meet"), 0, 2, 3)
	ends(t, of("ssend 1/1, meet", "irecv 0/any, irecv 0/1, wait 1, meet"), 0, 1, 2)
	finishes(t, of("ssend 1/1, meet", "irecv 0/any, irecv 0/1, wait 0, meet"), 0)
	ends(t, of("ssend 1/1, meet", "irecv 0/2, irecv 0/any, wait 0, meet"), 0, 1, 2)
	finishes(t, of("isend 1/1, isend 1/2, wait 0, meet", "recv 0/any, meet"), 0)
	ends(t, of("isend 1/1, isend 1/2, wait 1, meet", "recv 0/any, meet"), 0, 2, 1)
	finishes(t, of("isend 1/1, isend 1/2, wait 1, meet", "recv 0/2, meet"), 0)
	ends(t, of("isend 1/1, isend 1/2, wait 0, meet", "recv 0/2, meet"), 0, 2, 1)
	ends(t, of("send 1/1", "recv 2/1", ""), 0, 0, 0, 0)
	ends(t, of("send 2/1", "recv 0/1", ""), 0, 0, 0, 0)
}

// P8.4: waits for messages and for receives.
func TestWaits(t *testing.T) {
	ends(t, of("irecv 1/0, wait 0", ""), 0, 1, 0)
	finishes(t, of("irecv 1/0", ""), 0)
	finishes(t, of("isend 1/0", ""), 0)
	ends(t, of("isend 1/0, wait 0", ""), 0, 1, 0)
	finishes(t, of("isend 1/0, wait 0", ""), 1)
	finishes(t, of("isend 1/0, wait 0", "irecv 0/0, wait 0"), 0)
	ends(t, of("irecv 0/0, isend 0/0, irecv 0/0, wait 1, wait 2, wait 0"), 0, 4)
	finishes(t, of("irecv 0/0, isend 0/0, irecv 0/0, wait 1, wait 0"), 0)
}

// P8.4: a meeting needs that all have begun it; also a process that has come to its end counts.
func TestMeetings(t *testing.T) {
	finishes(t, of("meet"), 0)
	finishes(t, of("meet, meet", "meet, meet", "meet, meet"), 0)
	ends(t, of("meet, meet, meet", "meet, meet, meet", "meet, recv 0/0, meet, meet"), 0, 1, 1, 1)
	ends(t, of("meet", ""), 5, 0, 0)
	ends(t, of("meet, meet", "meet, recv 0/0"), 5, 1, 1)
	blocked(t, of("meet, meet, meet", "meet, meet", "meet, recv 1/0, meet", ""), 0,
		dead.Block{Process: 0, At: 0, For: []int{3}}, dead.Block{Process: 1, At: 0, For: []int{3}}, dead.Block{Process: 2, At: 0, For: []int{3}})
	blocked(t, of("meet, meet, meet", "meet, recv 2/0, meet", "meet, recv 1/0, meet", "meet, meet"), 0,
		dead.Block{Process: 0, At: 1, For: []int{1, 2}}, dead.Block{Process: 1, At: 1, For: []int{2}},
		dead.Block{Process: 2, At: 1, For: []int{1}}, dead.Block{Process: 3, At: 1, For: []int{1, 2}})
}

// P8.4: for whom a blocked process waits: for the Peer of its deed, or of its request.
func TestBlocks(t *testing.T) {
	blocked(t, of("send 2/0", "recv 3/0", "isend 1/1, irecv 3/0, wait 1", "irecv 2/0, isend 0/5, wait 1"), 0,
		dead.Block{Process: 0, At: 0, For: []int{2}}, dead.Block{Process: 1, At: 0, For: []int{3}},
		dead.Block{Process: 2, At: 2, For: []int{3}}, dead.Block{Process: 3, At: 2, For: []int{0}})
	blocked(t, of("meet", "ssend 1/0", "ssend 0/0, meet"), 9,
		dead.Block{Process: 0, At: 0, For: []int{1, 2}}, dead.Block{Process: 1, At: 0, For: []int{1}}, dead.Block{Process: 2, At: 0, For: []int{0}})
	blocked(t, of("", "", "recv 0/0"), 0, dead.Block{Process: 2, At: 0, For: []int{0}})
	blocked(t, caseC(), 0)
}

// P8.5: the cycle of the least process whose path has one; it begins with its least process.
func TestCycle(t *testing.T) {
	circles(t, of("recv 0/0"), 0, 0)
	circles(t, of("recv 1/0", "recv 1/0"), 0, 1)
	circles(t, of("recv 2/0", "recv 3/0", "recv 1/0", "recv 2/0"), 0, 1, 3, 2)
	circles(t, of("recv 3/0", "recv 2/0", "recv 1/0", "recv 3/0"), 0, 3)
	circles(t, of("recv 4/0", "recv 0/0", "recv 3/0", "recv 2/0", ""), 0, 2, 3)
	circles(t, of("recv 1/0", "recv 2/0", "recv 3/0", ""), 0)
	circles(t, of("recv 4/0", "recv 0/0", "recv 1/0", "recv 2/0", "recv 3/0"), 0, 0, 4, 3, 2, 1)
	circles(t, of("recv 1/0", "recv 2/0", "recv 0/0"), 0, 0, 1, 2)
}

// P8.5: the path goes on to the least blocked process: those that have come to their ends do not count.
func TestCycleOfMeetings(t *testing.T) {
	circles(t, of("meet, meet", "meet", "meet, recv 0/0, meet"), 0, 0, 2)
	circles(t, of("meet", "recv 0/0, meet", "recv 0/0, meet"), 0, 0, 1)
	circles(t, of("", "meet", "recv 1/0, meet", "recv 1/0"), 0, 1, 2)
	circles(t, of("meet", "", "recv 1/0, meet", "recv 0/0, meet"), 0)
	circles(t, of("meet", "meet", "meet", ""), 0)
}

// P8.6: it is always the least process that can go on that does so.
func TestShow(t *testing.T) {
	shows(t, of(""), 0)
	shows(t, of("recv 0/0"), 0)
	shows(t, of("meet, meet", "meet, meet"), 0, 0, 1, 0, 1)
	shows(t, of("recv 1/0, irecv 0/0", "irecv 0/0, send 0/0", "isend 0/0"), 0, 1, 0, 0, 1, 2)
	shows(t, caseA(), 1, 0, 0, 1, 1)
	shows(t, of("recv 1/0", "recv 2/0, send 0/0", "send 1/0, send 1/1"), 1, 1, 0, 1, 2, 2)
	shows(t, caseA(), 0)
}

// P8.6: schedules that are followed, to the end or not.
func TestFollow(t *testing.T) {
	follows(t, caseC(), 0, nil, false, 0, 0)
	follows(t, caseA(), 0, nil, true, 0, 0)
	follows(t, caseC(), 0, []int{1, 0, 1, 1, 0}, false, 2, 3)
	follows(t, caseC(), 0, []int{1, 0, 1, 1, 0, 0}, true, 3, 3)
	follows(t, caseE(), 0, nil, true, 0, 0)
	follows(t, of(""), 0, nil, true, 0)
	follows(t, caseF(), 0, []int{2, 0, 1}, true, 1, 1, 1)
	follows(t, caseF(), 0, []int{2, 0}, false, 1, 0, 1)
}

// P8.6: processes that there are not, and those that cannot go on: the first process of the schedule with an error decides.
func TestFollowErrors(t *testing.T) {
	for _, p := range []int{-1, 2, lowest, highest} {
		followFails(t, caseC(), 0, []int{p}, api.ErrRank)
		followFails(t, caseC(), 0, []int{0, 1, p}, api.ErrRank)
		followFails(t, caseA(), 0, []int{p, 0}, api.ErrRank)
	}
	followFails(t, caseA(), 0, []int{0}, api.ErrState)
	followFails(t, caseA(), 0, []int{0, 2}, api.ErrState)
	followFails(t, caseC(), 0, []int{1, 0, 1, 1, 0, 0, 0}, api.ErrState)
	followFails(t, caseE(), 0, []int{1}, api.ErrState)
	followFails(t, caseA(), 1, []int{0, 0, 0}, api.ErrState)
	follows(t, caseA(), 1, []int{0, 1, 0}, false, 2, 1)
}
