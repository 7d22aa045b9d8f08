package window_test

import (
	"slices"
	"testing"

	"armada/api"
	"armada/window"
)

// writer writes a program in parts in which all processes take part, so that none of them gets stuck.
type writer struct {
	*dice
	program
	fences bool       // whether remote accesses between fences can follow
	remote func() act // an access to any process
}

func (w *writer) add(rank int, l ...act) { w.Acts[rank] = append(w.Acts[rank], l...) }

// anyOp returns an operation for integers.
func anyOp(d *dice) int { return 1 + d.roll(9) }

// anyValue returns a value, small ones more often than others.
func anyValue(d *dice) int64 {
	return pick(d, 0, 0, 1, 1, 2, 3, 5, -1, -7, 1<<40, most, least)
}

// anyRemote returns a remote access.
func anyRemote(d *dice, procs, cells int) act {
	rank, at := d.roll(procs), d.roll(cells)
	switch d.roll(8) {
	case 0, 1:
		return put(rank, at, anyValue(d))
	case 2:
		return get(rank, at)
	case 3, 4:
		return acc(rank, at, pick(d, api.OpSum, api.OpSum, anyOp(d)), anyValue(d))
	case 5:
		return swap(rank, at, anyValue(d), pick(d, 0, anyValue(d)))
	}
	return fetch(rank, at, pick(d, api.OpSum, anyOp(d)), anyValue(d))
}

// accesses adds a few accesses to some processes, and to their own cells.
func (w *writer) accesses(rank int, group ...int) {
	for range w.roll(4) {
		if w.often(4) {
			w.add(rank, pick(w.dice, load(w.roll(w.Cells)), store(w.roll(w.Cells), anyValue(w.dice))))
			continue
		}
		a := w.remote()
		a.Rank = pick(w.dice, group...)
		w.add(rank, a)
	}
}

// all returns all processes.
func (w *writer) all() []int {
	l := make([]int, len(w.Acts))
	for rank := range l {
		l[rank] = rank
	}
	return l
}

// fence adds a Fence to all processes, and accesses behind it that the next one completes.
func (w *writer) fence(accesses bool) {
	for rank := range w.Acts {
		w.add(rank, fence)
		if accesses {
			w.accesses(rank, w.all()...)
		}
	}
	w.fences = accesses
}

// open adds epochs of some processes with some others, whose windows are posted before all of these begin.
func (w *writer) open() {
	w.close()
	to, from := make([][]int, len(w.Acts)), make([][]int, len(w.Acts))
	for a := range w.Acts {
		for b := range w.Acts {
			if a != b && w.often(3) {
				to[a], from[b] = append(to[a], b), append(from[b], a)
			}
		}
	}
	for b, group := range from {
		if len(group) > 0 {
			w.add(b, post(group...))
		}
	}
	for a, group := range to {
		if w.often(3) {
			w.lock(a)
		}
		if len(group) > 0 {
			w.add(a, start(group...))
			w.accesses(a, group...)
			w.add(a, complete)
		}
		if len(from[a]) > 0 {
			w.add(a, wait)
		}
	}
}

// lock adds an epoch under a lock.
func (w *writer) lock(rank int) {
	other := w.roll(len(w.Acts))
	w.add(rank, pick(w.dice, lock(other), share(other)))
	w.accesses(rank, other)
	if w.often(3) {
		w.add(rank, flush(other))
		w.accesses(rank, other)
	}
	w.add(rank, unlock(other))
}

// close adds a Fence if accesses have to be completed by one.
func (w *writer) close() {
	if w.fences {
		w.fence(false)
	}
}

// part adds one part.
func (w *writer) part() {
	switch w.roll(4) {
	case 0:
		w.fence(true)
	case 1:
		w.open()
	case 2:
		w.close()
		w.lock(w.roll(len(w.Acts)))
	default:
		rank := w.roll(len(w.Acts))
		w.add(rank, pick(w.dice, load(w.roll(w.Cells)), store(w.roll(w.Cells), anyValue(w.dice))))
	}
}

// written returns a program of some parts with the accesses of a function.
func written(d *dice, procs, cells, parts int, remote func() act) program {
	w := &writer{dice: d, program: program{Cells: cells, Acts: make([][]act, procs)}, remote: remote}
	for range parts {
		w.part()
	}
	w.close()
	return w.program
}

// goodProgram returns a program that is valid, and in which nothing is stuck.
func goodProgram(d *dice) program {
	procs, cells := 1+d.roll(4), pick(d, 1, 2, 3, 8)
	return written(d, procs, cells, 1+d.roll(4), func() act { return anyRemote(d, procs, cells) })
}

// anyGroup returns a few processes, hardly ever wrong ones.
func anyGroup(d *dice, procs int) []int {
	var l []int
	for range d.roll(3) + truth(!d.often(9)) {
		if x := d.roll(procs); !slices.Contains(l, x) || d.often(9) {
			l = append(l, x)
		}
	}
	return l
}

// anyAct returns an action of any kind, hardly ever with wrong numbers.
func anyAct(d *dice, procs, cells int) act {
	a := act{Kind: 1 + d.roll(16), Rank: d.roll(procs), At: d.roll(max(cells, 1)), Op: anyOp(d), Value: anyValue(d), Other: anyValue(d), Group: anyGroup(d, procs)}
	wrong := func(l ...int) int { return pick(d, append(l, -1, 0, highest, lowest)...) }
	switch d.roll(60) {
	case 0:
		a.Kind = wrong(17, 18)
	case 1:
		a.Rank = wrong(procs)
	case 2:
		a.At = wrong(cells)
	case 3:
		a.Op = wrong(10, 11, 12)
	}
	return a
}

// isLegal reports whether an action can come behind some others, wherever they lead.
func isLegal(p program, rank int, a act) bool {
	l := append(slices.Clone(p.Acts[rank]), a)
	m := model{program{Cells: p.Cells, Acts: slices.Clone(p.Acts)}}
	m.Acts[rank] = append(l, fence)
	return m.checkAct(rank, len(l)-1) == api.OK
}

// wildProgram returns a program in which each process does what is allowed, without a look at the other ones.
func wildProgram(d *dice) program {
	p := program{Cells: 1 + d.roll(3), Acts: make([][]act, 1+d.roll(4))}
	for rank := range p.Acts {
		for range d.roll(10) {
			if a := anyAct(d, len(p.Acts), p.Cells); isLegal(p, rank, a) {
				p.Acts[rank] = append(p.Acts[rank], a)
			}
		}
		l := p.Acts[rank]
		if _, _, is := lockAt(l, len(l)); is {
			l = append(l, unlock(l[last(l, len(l), window.Lock, window.Share)].Rank))
		}
		if _, is := openGroup(l, len(l)); is {
			l = append(l, complete)
		}
		if _, is := postedGroup(l, len(l)); is {
			l = append(l, wait)
		}
		if d.often(2) {
			l = append(l, fence)
		}
		p.Acts[rank] = l
	}
	return p
}

// tangledProgram returns a program of processes that open their windows and wait for each other in any order.
func tangledProgram(d *dice) program {
	p := program{Cells: 1, Acts: make([][]act, 2+d.roll(3))}
	for rank := range p.Acts {
		group := func() []int {
			l := []int{(rank + 1 + d.roll(len(p.Acts)-1)) % len(p.Acts)}
			if other := (rank + 1) % len(p.Acts); other != l[0] && d.often(3) {
				l = append(l, other)
			}
			return l
		}
		for range 1 + d.roll(3) {
			p.Acts[rank] = append(p.Acts[rank], pick(d,
				acts(start(group()...), complete),
				acts(post(group()...), wait),
				acts(post(group()...), start(group()...), complete, wait),
				acts(fence),
				acts(load(0)))...)
		}
	}
	return p
}

// spoil changes a program at some place.
func spoil(d *dice, p program) program {
	p = copied(p)
	rank := d.roll(len(p.Acts))
	l := p.Acts[rank]
	i := d.roll(len(l) + 1)
	a := anyAct(d, len(p.Acts), p.Cells)
	switch n := d.roll(4); {
	case n == 0 && i < len(l):
		l = slices.Delete(l, i, i+1)
	case n == 1 && i < len(l):
		l[i] = a
	case n == 2 && i < len(l) && len(l) > 1:
		k := d.roll(len(l))
		l[i], l[k] = l[k], l[i]
	default:
		l = slices.Insert(l, i, a)
	}
	p.Acts[rank] = l
	if d.often(50) {
		p.Cells = pick(d, -1, 0, 64, 65)
	}
	return p
}

// anyProgram returns a program, as a rule a valid one.
func anyProgram(d *dice) program {
	p := goodProgram(d)
	if d.often(2) {
		p = pick(d, wildProgram, tangledProgram)(d)
	}
	for d.often(2) {
		p = spoil(d, p)
	}
	return p
}

// P11.1: programs at random, right ones and wrong ones.
func TestCheckAtRandom(t *testing.T) {
	d := dice(111)
	seen := map[api.Errno]int{}
	for range 40000 {
		p := anyProgram(&d)
		at, e := model{p}.check()
		checks(t, p, at, e)
		seen[e]++
		if e == api.ErrState && at.Index == len(p.Acts[at.Rank]) {
			seen[-1]++
		}
	}
	for e, n := range map[api.Errno]int{api.OK: 10000, api.ErrArg: 200, api.ErrRange: 100, api.ErrHave: 10, api.ErrState: 3000, api.ErrRank: 200, api.ErrType: 3, -1: 500} {
		if seen[e] < n {
			t.Error(e, seen[e])
		}
	}
}

// validPrograms calls a function with valid programs.
func validPrograms(seed dice, n int, f func(d *dice, p program)) {
	for n > 0 {
		p := anyProgram(&seed)
		if _, e := (model{p}).check(); e == api.OK && len(places(p)) < 60 {
			f(&seed, p)
			n--
		}
	}
}

// P11.2: each two places of programs at random, also of such in which processes wait in vain.
func TestBeforeAtRandom(t *testing.T) {
	yes, circles := 0, 0
	compare := func(p program) {
		all, want := places(p), model{p}.before()
		for i, x := range all {
			for k, y := range all {
				if got := comes(t, p, x, y); got != want[i][k] {
					t.Fatal(p, x, y, got)
				}
				yes += truth(want[i][k] && x.Rank != y.Rank)
			}
			circles += truth(want[i][i])
		}
	}
	validPrograms(112, 150, func(d *dice, p program) {
		compare(p)
		compare(tangledProgram(d))
	})
	if yes < 3000 || circles < 20 {
		t.Error(yes, circles)
	}
}

// P11.3: the races of programs at random.
func TestRacesAtRandom(t *testing.T) {
	none, some := 0, 0
	validPrograms(113, 5000, func(d *dice, p program) {
		want := model{p}.races()
		racesAre(t, p, want...)
		none += truth(len(want) == 0 && len(model{p}.accesses()) > 1)
		some += len(want)
	})
	if none < 500 || some < 3000 {
		t.Error(none, some)
	}
}

// P11.4: runs of programs at random.
func TestRunsAtRandom(t *testing.T) {
	stuck, values := 0, 0
	validPrograms(114, 4000, func(d *dice, p program) {
		seed := uint64(d.roll(1<<30)) << d.roll(34)
		want := model{p}.run(seed)
		if got := runs(t, p, seed); !sameResult(got, want) {
			t.Fatal(p, seed, got, want)
		}
		stuck += truth(len(want.Stuck) > 0)
		for _, l := range want.Values {
			values += len(l)
		}
	})
	if stuck < 400 || values < 5000 {
		t.Error(stuck, values)
	}
}
