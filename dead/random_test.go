package dead_test

import (
	"slices"
	"testing"

	"armada/api"
	"armada/dead"
	"armada/lang"
)

// randomCase returns a case: messages with receives for them, and meetings of all, but then mixed, changed and left out here and there.
func randomCase(d *dice, wild bool) [][]lang.Deed {
	c := make([][]lang.Deed, 1+d.roll(4))
	tags := 1 + d.roll(3)
	for range d.roll(10) {
		if d.often(6) {
			for p := range c {
				c[p] = append(c[p], lang.Deed{Kind: lang.DMeet})
			}
			continue
		}
		from, to, tag := d.roll(len(c)), d.roll(len(c)), d.roll(tags)
		message := lang.Deed{Kind: lang.DSend, Peer: to, Tag: tag, Sync: d.often(4)}
		receive := lang.Deed{Kind: lang.DRecv, Peer: from, Tag: tag}
		if d.often(4) {
			receive.Tag = api.AnyTag
		}
		if wild && d.often(3) {
			receive.Peer = api.AnySource
		}
		c[from] = append(c[from], message)
		c[to] = append(c[to], receive)
	}
	disorder := pick(d, 2, 4, 20)
	loss := pick(d, 5, 20, 1000)
	for p := range c {
		for i := range len(c[p]) - 1 {
			if d.often(disorder) {
				c[p][i], c[p][i+1] = c[p][i+1], c[p][i]
			}
		}
		c[p] = slices.DeleteFunc(c[p], func(lang.Deed) bool { return d.often(loss) })
		c[p] = withRequests(d, c[p])
	}
	return c
}

// withRequests lets a process send and receive some messages with requests, and wait for most of these.
func withRequests(d *dice, l []lang.Deed) []lang.Deed {
	var out []lang.Deed
	var active []int
	requests := 0
	wait := func() {
		i := d.roll(len(active))
		out = append(out, lang.Deed{Kind: lang.DWait, Req: active[i]})
		active = slices.Delete(active, i, i+1)
	}
	for _, x := range l {
		if x.Kind != lang.DMeet && d.often(2) {
			x = lang.Deed{Kind: map[int]int{lang.DSend: lang.DIsend, lang.DRecv: lang.DIrecv}[x.Kind], Peer: x.Peer, Tag: x.Tag, Req: requests}
			active = append(active, requests)
			requests++
		}
		out = append(out, x)
		for len(active) > 0 && d.often(3) {
			wait()
		}
	}
	for len(active) > 0 && !d.often(8) {
		wait()
	}
	return out
}

// P8.1 to P8.7: cases at random have the same results as in the model.
func TestModel(t *testing.T) {
	d := dice(81)
	kinds, cycles := map[int]int{}, 0
	for range 20000 {
		c := randomCase(&d, d.often(4))
		checks(t, c, api.OK)
		closed, ok := narrowed(c)
		if !ok {
			staysOpen(t, c)
			kinds[dead.Unknown]++
			continue
		}
		narrows(t, c, closed)
		v := verdictOf(closed)
		decides(t, c, v.Kind, v.Room)
		kinds[v.Kind]++
		for _, room := range []int{0, 1, 2, 1 + d.roll(12)} {
			m := modelOf(closed, room)
			shows(t, closed, room, m.show()...)
			ends(t, closed, room, m.behind...)
			blocked(t, closed, room, m.blocks()...)
			cycle := cycleOf(m.blocks())
			circles(t, closed, room, cycle...)
			cycles += min(len(cycle), 1)
		}
		if t.Failed() {
			return
		}
	}
	for kind := dead.Free; kind <= dead.Unknown; kind++ {
		if kinds[kind] < 500 {
			t.Error("too few cases of the kind", kind, kinds)
		}
	}
	if cycles < 1000 {
		t.Error("too few cycles:", cycles)
	}
}

// P8.6: schedules at random, some of which cannot be followed.
func TestFollowModel(t *testing.T) {
	d := dice(82)
	seen := map[api.Errno]int{}
	for range 20000 {
		c, _ := narrowed(randomCase(&d, false))
		room := d.roll(4)
		m := modelOf(c, room)
		var schedule []int
		want := api.OK
		for range d.roll(20) {
			p := d.roll(len(c))
			if able := m.able(); len(able) > 0 && !d.often(10) {
				p = pick(&d, able...)
			}
			if d.often(40) {
				p = pick(&d, -1, len(c))
			}
			schedule = append(schedule, p)
			if p < 0 || p >= len(c) {
				want = api.ErrRank
				break
			}
			if !m.canGoOn(p) {
				want = api.ErrState
				break
			}
			m.behind[p]++
		}
		seen[want]++
		if want != api.OK {
			followFails(t, c, room, schedule, want)
		} else {
			follows(t, c, room, schedule, len(m.able()) == 0, m.behind...)
		}
		if t.Failed() {
			return
		}
	}
	for _, e := range []api.Errno{api.OK, api.ErrRank, api.ErrState} {
		if seen[e] < 1000 {
			t.Error(seen)
		}
	}
}
