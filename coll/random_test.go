package coll_test

import (
	"slices"
	"testing"

	"armada/api"
	"armada/coll"
)

// isModelled fails unless all calls with a schedule give what the model gives, and reports whether it is sound, possible and right.
func isModelled(t *testing.T, d *dice, s coll.Schedule) (sound, possible, right bool) {
	t.Helper()
	want := modelSound(s)
	isSound(t, s, want)
	if want != api.OK {
		return false, false, false
	}
	rounds := 0
	for _, x := range s.Steps {
		rounds = max(rounds, x.Round+1)
	}
	if n, e := coll.Rounds(s); n != rounds || e != api.OK {
		t.Errorf("Rounds of %+v: %v %v", s, n, e)
	}
	now, possible := modelTrace(s)
	right, ordered := modelRight(s)
	isRight(t, s, right, ordered)
	if !possible {
		notPossible(t, s)
		return true, false, false
	}
	for rank, slots := range traced(t, s) {
		for slot, l := range slots {
			if !slices.Equal(l, now[coll.Origin{Rank: rank, Slot: slot}]) {
				t.Errorf("Trace of %+v: in the slot %d of %d is %v", s, slot, rank, l)
			}
		}
	}
	if right {
		runsAsDeclared(t, d, s)
	} else {
		runFails(t, s, 0, 0, nil, api.ErrState)
	}
	return true, true, right
}

// changed returns a schedule that is changed a bit at random.
func changed(d *dice, s coll.Schedule) coll.Schedule {
	s = copied(s)
	p, n := s.Task.Procs, modelSlots(s.Task)
	for range 1 + d.roll(3) {
		if len(s.Steps) == 0 || d.often(4) {
			last := 0
			if len(s.Steps) > 0 {
				last = s.Steps[len(s.Steps)-1].Round
			}
			x := coll.Step{Round: d.roll(last + 2), From: d.roll(p), To: d.roll(p), Src: d.roll(n), Dst: d.roll(n), Join: d.roll(3)}
			s.Steps = append(s.Steps, x)
			continue
		}
		i := d.roll(len(s.Steps))
		switch d.roll(8) {
		case 0:
			s.Steps = slices.Delete(s.Steps, i, i+1)
		case 1:
			s.Steps[i].Round += d.roll(3) - 1
		case 2:
			s.Steps[i].From = d.roll(p+1) - d.roll(10)/9
		case 3:
			s.Steps[i].To = d.roll(p+1) - d.roll(10)/9
		case 4:
			s.Steps[i].Src = d.roll(n+1) - d.roll(10)/9
		case 5:
			s.Steps[i].Dst = d.roll(n+1) - d.roll(10)/9
		case 6:
			s.Steps[i].Join = d.roll(4) - d.roll(10)/9
		case 7:
			for j := range s.Steps[i:] {
				s.Steps[i+j].Round++
			}
		}
	}
	if !d.often(6) {
		sortSteps(s.Steps)
	}
	return s
}

func sortSteps(l []coll.Step) {
	slices.SortStableFunc(l, func(a, b coll.Step) int { return slices.Compare(key(a), key(b)) })
}

// P9.3, P9.4, P9.5: schedules that are made, and changed a bit.
func TestChangedSchedules(t *testing.T) {
	d := dice(3)
	all := tasks(5, 2)
	sound, possible, right := 0, 0, 0
	for range 30000 {
		x := all[d.roll(len(all))]
		l := schedules(t, x)
		s := changed(&d, l[d.roll(len(l))])
		is, can, does := isModelled(t, &d, s)
		sound, possible, right = sound+add(is), possible+add(can), right+add(does)
		if t.Failed() {
			t.Fatal(s)
		}
	}
	if sound < 9000 || possible < 6000 || right < 1000 {
		t.Error(sound, possible, right)
	}
}

func add(is bool) int { return truth(is) }

// randomSteps returns a schedule of steps at random, most of which fit together.
func randomSteps(d *dice, x coll.Task) coll.Schedule {
	s := coll.Schedule{Task: x}
	p, n := x.Procs, modelSlots(x)
	peers := upTo(p)
	for round := range 1 + d.roll(5) {
		shuffle(d, peers)
		for from, to := range peers {
			for range d.roll(1 + min(n, 4)) {
				slot := d.roll(n)
				y := coll.Step{Round: round, From: from, To: to, Src: slot, Dst: slot, Join: d.roll(3)}
				if d.often(9) {
					y.Src = d.roll(n)
				}
				if d.often(20) {
					y.To = d.roll(p)
				}
				if slices.ContainsFunc(s.Steps, func(z coll.Step) bool { return z.Round == round && z.To == y.To && z.Dst == y.Dst }) && !d.often(20) {
					continue
				}
				s.Steps = append(s.Steps, y)
			}
		}
	}
	sortSteps(s.Steps)
	return s
}

// P9.3, P9.4, P9.5: schedules of steps at random.
func TestRandomSchedules(t *testing.T) {
	d := dice(4)
	all := slices.DeleteFunc(tasks(4, 2), func(x coll.Task) bool { return modelSlots(x) > 6 })
	sound, possible, right := 0, 0, 0
	for range 60000 {
		s := randomSteps(&d, all[d.roll(len(all))])
		is, can, does := isModelled(t, &d, s)
		sound, possible, right = sound+add(is), possible+add(can), right+add(does)
		if t.Failed() {
			t.Fatal(s)
		}
	}
	if sound < 20000 || possible < 10000 || right < 1000 {
		t.Error(sound, possible, right)
	}
}

// P9.4, P9.5: schedules that are made for more processes are followed as the model follows them.
func TestLargerSchedules(t *testing.T) {
	d := dice(5)
	for _, p := range []int{6, 7, 8, 13, 16} {
		for op := 1; op < coll.Halo; op++ {
			for _, s := range schedules(t, task(op, p, d.roll(p)*truth(hasRoot(op)), min(3, mostParts(op, p)))) {
				if _, _, right := isModelled(t, &d, s); !right {
					t.Fatal(s)
				}
			}
		}
	}
}
