package dead_test

import (
	"slices"
	"testing"

	"armada/api"
	"armada/dead"
	"armada/lang"
)

// P8.1: well-formed cases.
func TestFormed(t *testing.T) {
	for _, c := range [][][]lang.Deed{
		caseA(), caseB(), caseC(), caseD(), caseE(), caseF(), caseG(), caseH(),
		of(""),
		of("send 0/0, ssend 0/1048576, recv 0/any, recv any/0, recv any/any, recv 0/1048576"),
		of("isend 1/1048576, irecv any/any, irecv 1/1048576, wait 2, meet, wait 0, isend 0/0, wait 3", "meet"),
		of("irecv 1/0, isend 1/0", "irecv 0/0"),
		of(repeat("meet", 200), repeat("recv any/any", 200)),
		make([][]lang.Deed, 64),
	} {
		checks(t, c, api.OK)
	}
}

// P8.1: how many processes, and deeds of each.
func TestNumbers(t *testing.T) {
	checks(t, nil, api.ErrRange)
	checks(t, [][]lang.Deed{}, api.ErrRange)
	checks(t, make([][]lang.Deed, 65), api.ErrRange)
	checks(t, of(repeat("meet", 201)), api.ErrMany)
	checks(t, of("", repeat("meet", 201)), api.ErrMany)
}

// P8.1: ErrRange comes before ErrMany, and this before ErrArg, whichever process it is that has too many deeds.
func TestOrderOfErrors(t *testing.T) {
	odd := []lang.Deed{{Kind: 7}}
	many := deeds(repeat("meet", 201))
	checks(t, [][]lang.Deed{odd, many}, api.ErrMany)
	checks(t, [][]lang.Deed{odd, nil, many, nil}, api.ErrMany)
	checks(t, [][]lang.Deed{slices.Repeat(odd, 201)}, api.ErrMany)
	checks(t, [][]lang.Deed{nil, odd}, api.ErrArg)
	large := make([][]lang.Deed, 65)
	large[0] = many
	checks(t, large, api.ErrRange)
	large[0] = odd
	checks(t, large, api.ErrRange)
}

// P8.1: deeds that are not well-formed: with one wrong field each.
func TestNotFormed(t *testing.T) {
	message := []lang.Deed{
		{Peer: -1}, {Peer: -2}, {Peer: 2}, {Peer: lowest}, {Peer: highest},
		{Tag: -1}, {Tag: -2}, {Tag: api.MaxTag + 1}, {Tag: lowest}, {Tag: highest},
		{Req: 1}, {Req: -1}, {Req: highest},
	}
	receive := append(slices.Clone(message[1:5]), message[6:]...)
	receive = append(receive, lang.Deed{Sync: true})
	nothing := []lang.Deed{{Peer: 1}, {Peer: -1}, {Tag: 1}, {Tag: -1}, {Sync: true}, {Req: 1}, {Req: -1}, {Req: highest}, {Req: lowest}}
	wrong := map[int][]lang.Deed{
		lang.DSend:  message,
		lang.DIsend: append(slices.Clone(message), lang.Deed{Sync: true}),
		lang.DRecv:  receive,
		lang.DIrecv: receive,
		lang.DWait:  nothing,
		lang.DMeet:  nothing,
	}
	for kind, l := range wrong {
		for _, d := range l {
			d.Kind = kind
			before := deeds("")
			if kind == lang.DWait {
				before = deeds("isend 0/0")
			}
			checks(t, [][]lang.Deed{append(before, d), nil}, api.ErrArg)
			checks(t, [][]lang.Deed{nil, append(before, d)}, api.ErrArg)
		}
	}
	for _, kind := range []int{0, 7, -1, lowest, highest} {
		checks(t, [][]lang.Deed{{{Kind: kind}}}, api.ErrArg)
	}
}

// P8.1: the numbers of requests, and the waits for them.
func TestRequests(t *testing.T) {
	one := func(l ...lang.Deed) [][]lang.Deed { return [][]lang.Deed{l} }
	isend := func(n int) lang.Deed { return lang.Deed{Kind: lang.DIsend, Req: n} }
	irecv := func(n int) lang.Deed { return lang.Deed{Kind: lang.DIrecv, Req: n} }
	wait := func(n int) lang.Deed { return lang.Deed{Kind: lang.DWait, Req: n} }
	checks(t, one(isend(0), irecv(1), isend(2), wait(1), irecv(3), wait(3), wait(0), wait(2)), api.OK)
	checks(t, one(lang.Deed{Kind: lang.DSend}, isend(0), lang.Deed{Kind: lang.DRecv}, wait(0), irecv(1)), api.OK)
	checks(t, one(isend(0), isend(0)), api.ErrArg)
	checks(t, one(isend(0), irecv(0)), api.ErrArg)
	checks(t, one(isend(0), irecv(2)), api.ErrArg)
	checks(t, one(isend(1)), api.ErrArg)
	checks(t, one(lang.Deed{Kind: lang.DSend}, isend(1)), api.ErrArg)
	checks(t, one(wait(0)), api.ErrArg)
	checks(t, one(wait(0), isend(0)), api.ErrArg)
	checks(t, one(isend(0), wait(0), wait(0)), api.ErrArg)
	checks(t, one(isend(0), wait(1)), api.ErrArg)
	checks(t, one(isend(0), wait(-1)), api.ErrArg)
	checks(t, [][]lang.Deed{{isend(0)}, {wait(0)}}, api.ErrArg)
	checks(t, [][]lang.Deed{{isend(0)}, {isend(1)}}, api.ErrArg)
	checks(t, [][]lang.Deed{{isend(0)}, {isend(0), wait(0)}}, api.OK)
}

// P8.1: all other functions with a case return the error of Check first, and nothing else.
func TestErrorsOfCheck(t *testing.T) {
	open := deeds("recv any/0")
	for _, c := range [][][]lang.Deed{
		nil,
		make([][]lang.Deed, 65),
		{open, deeds(repeat("meet", 201))},
		{open, {{Kind: 9}}},
	} {
		want := errorOf(c)
		is(t, "Check", dead.Check(c), want)
		if want == api.OK {
			t.Error("the case is well-formed", texts(c))
		}
		for _, room := range []int{-1, 0} {
			if l, e := dead.End(c, room); len(l) > 0 || e != want {
				t.Error("End", l, e)
			}
			if l, e := dead.Blocks(c, room); len(l) > 0 || e != want {
				t.Error("Blocks", l, e)
			}
			if l, e := dead.Cycle(c, room); len(l) > 0 || e != want {
				t.Error("Cycle", l, e)
			}
			if l, e := dead.Show(c, room); len(l) > 0 || e != want {
				t.Error("Show", l, e)
			}
			followFails(t, c, room, []int{-1}, want)
		}
		if l, ok, e := dead.Narrow(c); len(l) > 0 || ok || e != want {
			t.Error("Narrow", l, ok, e)
		}
		if v, e := dead.Decide(c); v != (dead.Verdict{}) || e != want {
			t.Error("Decide", v, e)
		}
	}
}

// P8.1: cases at random, most of them with a wrong deed.
func TestCheckModel(t *testing.T) {
	d := dice(801)
	seen := map[api.Errno]int{}
	for range 30000 {
		c := make([][]lang.Deed, 1+d.roll(3))
		for p := range c {
			requests := 0
			for range d.roll(5) {
				x := lang.Deed{Kind: 1 + d.roll(6)}
				switch x.Kind {
				case lang.DWait:
					x.Req = d.roll(2)
				case lang.DIsend, lang.DIrecv:
					x.Req = requests
					requests++
				}
				if x.Kind <= lang.DIrecv {
					x.Peer, x.Tag = d.roll(len(c)), d.roll(3)
				}
				if d.often(12) {
					x = spoilt(&d, x)
				}
				c[p] = append(c[p], x)
			}
		}
		want := errorOf(c)
		seen[want]++
		if e := dead.Check(c); e != want {
			t.Fatalf("Check of %+v: %v, not %v", c, e, want)
		}
	}
	if seen[api.OK] < 1000 || seen[api.ErrArg] < 1000 {
		t.Error(seen)
	}
}

// spoilt changes a field of a deed.
func spoilt(d *dice, x lang.Deed) lang.Deed {
	v := pick(d, -2, -1, 0, 1, 2, 3, api.MaxTag, api.MaxTag+1, lowest, highest)
	switch d.roll(5) {
	case 0:
		x.Kind = v
	case 1:
		x.Peer = v
	case 2:
		x.Tag = v
	case 3:
		x.Req = v
	case 4:
		x.Sync = true
	}
	return x
}
