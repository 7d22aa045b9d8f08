package dead_test

import (
	"testing"

	"armada/api"
	"armada/dead"
	"armada/lang"
)

// P8.3: a case that is not open is returned itself.
func TestNarrowClosed(t *testing.T) {
	for _, c := range [][][]lang.Deed{caseA(), caseB(), caseC(), caseD(), caseE(), caseF(), of(""), of("irecv 0/any, wait 0")} {
		narrows(t, c, c)
	}
}

// P8.3: which messages a receive from any process can mean.
func TestNarrow(t *testing.T) {
	for _, x := range []struct{ from, to [][]lang.Deed }{
		{of("recv any/0"), of("recv 0/0")},
		{of("", "recv any/0", ""), of("", "recv 0/0", "")},
		{of("send 1/1", "recv any/2, irecv any/1", "send 1/2"), of("send 1/1", "recv 2/2, irecv 0/1", "send 1/2")},
		{of("", "recv any/any", "ssend 1/7, send 1/7"), of("", "recv 2/any", "ssend 1/7, send 1/7")},
		{of("", "recv any/any", "isend 1/7, isend 1/8"), of("", "recv 2/any", "isend 1/7, isend 1/8")},
		{of("send 2/0", "recv any/0", "send 0/0", "meet, send 1/0"), of("send 2/0", "recv 3/0", "send 0/0", "meet, send 1/0")},
		{of("", "recv any/0, send 1/0"), of("", "recv 1/0, send 1/0")},
		{of("send 1/4", "recv any/3, recv any/5", "send 1/5"), of("send 1/4", "recv 0/3, recv 2/5", "send 1/5")},
		{of("isend 1/1048576", "irecv any/1048576, wait 0, recv any/any"), of("isend 1/1048576", "irecv 0/1048576, wait 0, recv 0/any")},
		{of("recv 1/0, recv any/0", "send 0/0, send 0/0", "send 0/1"), of("recv 1/0, recv 1/0", "send 0/0, send 0/0", "send 0/1")},
		{of("recv any/1, send 1/1", "recv any/1, send 0/1"), of("recv 1/1, send 1/1", "recv 0/1, send 0/1")},
	} {
		narrows(t, x.from, x.to)
		v, _ := dead.Decide(x.to)
		decides(t, x.from, v.Kind, v.Room)
	}
}

// P8.3: two processes with messages that fit, whatever is between and behind.
func TestNarrowImpossible(t *testing.T) {
	for _, c := range [][][]lang.Deed{
		caseH(),
		of("send 1/0", "recv any/0", "send 1/0"),
		of("send 1/0", "recv any/any", "send 1/1"),
		of("send 1/0", "recv any/0, send 1/0"),
		of("isend 1/0", "irecv any/0", "", "ssend 1/0"),
		of("send 1/0, send 1/1", "recv any/0, recv any/1", "send 1/1, send 1/2"),
		of("send 1/0, send 1/0", "recv any/0", "", "send 0/0, meet, send 1/0"),
		of("send 1/0, recv any/5", "recv any/0", "send 1/0, send 0/5"),
		of("send 1/0", "recv 0/0, recv any/0", "send 1/0"),
	} {
		staysOpen(t, c)
	}
}

// P8.7: cases with each verdict.
func TestDecide(t *testing.T) {
	decides(t, of(""), dead.Free, 0)
	decides(t, make([][]lang.Deed, 64), dead.Free, 0)
	decides(t, of("meet", "meet"), dead.Free, 0)
	decides(t, of("send 1/0", "recv any/any"), dead.Free, 0)
	decides(t, of("ssend 1/0", "recv any/any"), dead.Free, 0)
	decides(t, of("send 0/0"), dead.Bound, 1)
	decides(t, of("ssend 0/0"), dead.Stuck, 0)
	decides(t, of("irecv 0/0, ssend 0/0, wait 0"), dead.Free, 0)
	decides(t, of("isend 0/0, wait 0"), dead.Bound, 1)
	decides(t, of("isend 0/0"), dead.Free, 0)
	decides(t, of("ssend 1/0, recv 1/0", "ssend 0/0, recv 0/0"), dead.Stuck, 0)
	decides(t, of("ssend 1/0, recv 1/0", "recv 0/0, send 0/0"), dead.Free, 0)
	decides(t, of("recv any/0"), dead.Stuck, 0)
	decides(t, of("meet", ""), dead.Stuck, 0)
}

// P8.7: the greatest room that can be needed, and less.
func TestRooms(t *testing.T) {
	for _, n := range []int{1, 2, 3, 63, 64, 65, 127, 199, 200} {
		decides(t, of(repeat("send 1/0", n), ""), dead.Bound, n)
		decides(t, of(repeat("send 0/0", n)), dead.Bound, n)
	}
	decides(t, of(repeat("send 1/0", 199)+", send 1/1", "recv 0/1, "+repeat("recv 0/0", 199)), dead.Bound, 199)
	decides(t, of(repeat("send 1/0", 198)+", send 1/2, send 1/1", "recv 0/1, "+repeat("recv 0/0", 198)), dead.Bound, 199)
	decides(t, of(repeat("send 1/0", 199)+", ssend 1/1", "recv 0/1, "+repeat("recv 0/0", 199)), dead.Bound, 199)
	decides(t, of(repeat("send 1/0", 199)+", ssend 1/1", "recv 0/2, "+repeat("recv 0/0", 199)), dead.Stuck, 0)
	decides(t, of(repeat("send 1/0", 100)+","+repeat("send 2/0", 70), "", ""), dead.Bound, 100)
}

// P8.7: a case that cannot be narrowed is Unknown, even if it is clear what becomes of it.
func TestUnknown(t *testing.T) {
	for _, c := range [][][]lang.Deed{
		of("recv 0/5, recv any/0", "send 0/0", "send 0/0"),
		of("irecv any/0, irecv any/0, wait 0, wait 1", "send 0/0", "send 0/0"),
	} {
		if v, e := dead.Decide(c); v != (dead.Verdict{Kind: dead.Unknown}) || e != api.OK {
			t.Error(texts(c), v, e)
		}
	}
}
