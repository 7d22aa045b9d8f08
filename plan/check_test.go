package plan_test

import (
	"slices"
	"testing"

	"armada/api"
	"armada/coll"
	"armada/net"
	"armada/plan"
)

// checks fails unless Check returns an error, or none.
func checks(t *testing.T, m plan.Machine, procs int, want api.Errno) {
	t.Helper()
	if e := plan.Check(m, procs); e != want {
		t.Errorf("Check of %+v, %d: %v, not %v", m, procs, e, want)
	}
}

// wrongNets returns networks that are not valid.
func wrongNets() []net.Spec {
	return []net.Spec{{}, torus(0, 4), torus(5, 4), torus(1), torus(1, 1), torus(1, 17, 2), torus(1, 16, 17), {Kind: net.Tree, Sides: []int{2, 2}, Hosts: 1}, tree(9, 1), dragonfly(1, 0, 1), {Kind: 4, Sides: []int{2}, Hosts: 1}, {Kind: highest}, {Kind: lowest, Sides: []int{highest}, Hosts: lowest}}
}

// P10.1: machines that are valid.
func TestCheckValid(t *testing.T) {
	checks(t, exampleMachine(), 4, api.OK)
	checks(t, machine(torus(1, 4), [4]int{}), 0, api.OK)
	checks(t, machine(torus(1, 4), [4]int{0, plan.MaxPrice, 0, 1000000}, 3), 1, api.OK)
	for _, s := range nets() {
		_, hosts := size(s)
		all := upTo(hosts)
		slices.Reverse(all)
		checks(t, machine(s, [4]int{1, 2, 3, 4}, all...), hosts, api.OK)
	}
	all := machine(torus(4, 16, 16), [4]int{plan.MaxPrice, plan.MaxPrice, plan.MaxPrice, plan.MaxPrice}, upTo(1024)...)
	checks(t, all, 1024, api.OK) // more than there can be processes
}

// P10.1: what is wrong with a machine, and what is named first.
func TestCheckErrors(t *testing.T) {
	for _, s := range wrongNets() {
		checks(t, machine(s, [4]int{1, 1, 1, 1}, 0), 1, api.ErrArg)
		checks(t, machine(s, [4]int{-1, 1, 1, 1}, 0, 0), 5, api.ErrArg)
	}
	for i := range 4 {
		for _, price := range []int{lowest, -1, plan.MaxPrice + 1, 1 << 32, highest} {
			m := exampleMachine()
			*[]*int{&m.Start, &m.Hop, &m.Word, &m.Join}[i] = price
			checks(t, m, 4, api.ErrRange)
			checks(t, m, 3, api.ErrRange)
			m.Hosts[1] = 0
			checks(t, m, 4, api.ErrRange)
		}
	}
	for _, procs := range []int{lowest, -4, -1, 0, 3, 5, 64, highest} {
		checks(t, exampleMachine(), procs, api.ErrShape)
		checks(t, machine(torus(1, 4), [4]int{}, 9, 9), procs, api.ErrShape)
	}
	checks(t, machine(torus(1, 4), [4]int{}), 1, api.ErrShape)
	checks(t, machine(torus(1, 4), [4]int{}), -1, api.ErrShape)
}

// P10.1: the first host with an error decides.
func TestCheckHosts(t *testing.T) {
	for _, x := range []struct {
		hosts []int
		want  api.Errno
	}{
		{[]int{0, 1, 2, 4}, api.ErrRange},
		{[]int{-1, 1, 2, 3}, api.ErrRange},
		{[]int{highest, 1, 2, 3}, api.ErrRange},
		{[]int{lowest, lowest, 2, 3}, api.ErrRange},
		{[]int{0, 1, 2, 0}, api.ErrHave},
		{[]int{3, 3, 2, 1}, api.ErrHave},
		{[]int{3, 3, 4, 1}, api.ErrHave},
		{[]int{3, 4, 3, 1}, api.ErrRange},
		{[]int{0, 1, 2, 2, -1}, api.ErrHave},
		{[]int{0, 1, 2, 3, 3}, api.ErrHave},
		{[]int{0, 1, 2, 3, 4}, api.ErrRange},
	} {
		checks(t, machine(torus(1, 4), [4]int{}, x.hosts...), len(x.hosts), x.want)
	}
	checks(t, machine(torus(3, 4), [4]int{}, 11, 0), 2, api.OK)
	checks(t, machine(torus(3, 4), [4]int{}, 12, 0), 2, api.ErrRange)
	checks(t, machine(tree(2, 3), [4]int{}, 7), 1, api.OK) // 12 switches, of which 4 have hosts
	checks(t, machine(tree(2, 3), [4]int{}, 8), 1, api.ErrRange)
}

// P10.1: Check at random, as the model has it.
func TestCheckRandom(t *testing.T) {
	d := dice(1)
	found := map[api.Errno]int{}
	for range 20000 {
		procs := d.roll(6)
		m := randomMachine(&d, procs)
		switch d.roll(6) {
		case 0:
			m.Net = pick(&d, wrongNets()...)
		case 1:
			*pick(&d, &m.Start, &m.Hop, &m.Word, &m.Join) = pick(&d, -1, plan.MaxPrice+1)
		case 2:
			procs += d.roll(3) - 1
		}
		for i := range m.Hosts {
			if d.often(6) {
				m.Hosts[i] = pick(&d, -1, 0, 1, 3, 4, 8, 1000)
			}
		}
		want := modelCheck(m, procs)
		checks(t, m, procs, want)
		found[want]++
	}
	for _, e := range []api.Errno{api.OK, api.ErrArg, api.ErrRange, api.ErrShape, api.ErrHave} {
		if found[e] < 300 {
			t.Error(e, found[e])
		}
	}
}

// P10.1: Spread, and its errors.
func TestSpread(t *testing.T) {
	for _, x := range []struct {
		s     net.Spec
		procs int
		want  []int
	}{
		{torus(1, 3, 4), 12, []int{0, 1, 2, 3, 7, 6, 5, 4, 8, 9, 10, 11}},
		{torus(1, 3, 4), 5, []int{0, 1, 2, 3, 7}},
		{torus(2, 3), 6, []int{0, 2, 4, 1, 3, 5}},
		{torus(4, 2), 8, []int{0, 4, 1, 5, 2, 6, 3, 7}},
		{torus(3, 2, 2), 9, []int{0, 3, 9, 6, 1, 4, 10, 7, 2}},
		{tree(2, 3), 8, []int{0, 2, 4, 6, 1, 3, 5, 7}},
		{tree(3, 1), 3, []int{0, 1, 2}},
		{dragonfly(2, 2, 1), 7, []int{0, 2, 4, 6, 8, 10, 1}},
		{torus(1, 4), 1, []int{0}},
		{torus(1, 4), 0, nil},
	} {
		if l, e := plan.Spread(x.s, x.procs); !slices.Equal(l, x.want) || e != api.OK {
			t.Errorf("Spread of %+v, %d: %v %v, not %v", x.s, x.procs, l, e, x.want)
		}
	}
	fails := func(s net.Spec, procs int, want api.Errno) {
		if l, e := plan.Spread(s, procs); len(l) > 0 || e != want {
			t.Errorf("Spread of %+v, %d: %v %v, not %v", s, procs, l, e, want)
		}
	}
	for _, s := range wrongNets() {
		for _, procs := range []int{lowest, -1, 0, 1, highest} {
			fails(s, procs, api.ErrArg)
		}
	}
	for _, s := range nets() {
		_, hosts := size(s)
		for _, procs := range []int{lowest, -1, hosts + 1, 1 << 40, highest} {
			fails(s, procs, api.ErrRange)
		}
	}
}

// P10.1: the hosts of Spread are a machine, and those of fewer processes are the first ones.
func TestSpreadProperties(t *testing.T) {
	for _, s := range append(nets(), torus(4, 16, 16), tree(4, 4)) {
		_, hosts := size(s)
		all, _ := plan.Spread(s, hosts)
		checks(t, machine(s, [4]int{}, all...), hosts, api.OK)
		snake, _ := net.Snake(s)
		for i, host := range all {
			home, e := net.Home(s, host)
			if e != api.OK || home != snake[i%len(snake)] || host%s.Hosts != i/len(snake) {
				t.Errorf("%+v: the host %d is %d", s, i, host)
			}
		}
		for _, procs := range []int{0, 1, hosts / 2, hosts - 1} {
			if l, e := plan.Spread(s, procs); !slices.Equal(l, all[:procs]) || e != api.OK {
				t.Errorf("Spread of %+v, %d: %v %v", s, procs, l, e)
			}
		}
	}
}

// wrongTasks returns tasks that are not valid, and why.
func wrongTasks() map[api.Errno][]coll.Task {
	return map[api.Errno][]coll.Task{
		api.ErrArg:   {{}, task(12, 4, 0, 1), task(coll.Scan, 4, 1, 1), task(lowest, 4, 0, 1)},
		api.ErrRange: {task(coll.Bcast, 0, 0, 1), task(coll.Bcast, 65, 0, 1), task(coll.Bcast, 4, 4, 1), task(coll.Bcast, 4, 0, 17), task(coll.Barrier, 4, 0, 2), task(coll.Scan, highest, 0, highest)},
		api.ErrMany:  {task(coll.Gather, 64, 0, 5), task(coll.Alltoall, 17, 0, 16)},
		api.ErrShape: {{Op: coll.Halo, Procs: 4, Parts: 1}},
	}
}

// wrongMachines returns machines that are not valid for 4 processes, and why.
func wrongMachines() map[api.Errno][]plan.Machine {
	p := [4]int{1, 1, 1, 1}
	return map[api.Errno][]plan.Machine{
		api.ErrArg:   {{}, machine(torus(1, 1), p, 0, 1, 2, 3), machine(torus(1, 1), p)},
		api.ErrRange: {machine(torus(1, 4), [4]int{1, -1, 1, 1}), machine(torus(1, 4), p, 0, 1, 2, 4), machine(torus(1, 4), p, 0, 1, -1, 1)},
		api.ErrShape: {machine(torus(1, 4), p), machine(torus(1, 4), p, 0, 1, 2), machine(torus(2, 4), p, 0, 1, 2, 3, 4)},
		api.ErrHave:  {machine(torus(1, 4), p, 0, 1, 2, 1), machine(torus(1, 4), p, 0, 0, 9, 1)},
	}
}

// failsAll fails unless all functions with a machine and a task return an error, and nothing else.
func failsAll(t *testing.T, m plan.Machine, x coll.Task, want api.Errno) {
	t.Helper()
	n, e1 := plan.Words(m, x, plan.Witness{Kind: 9})
	low, e2 := plan.Bound(m, x)
	costs, e3 := plan.Costs(m, x)
	c, e4 := plan.Choose(m, x)
	e5 := plan.Verify(m, plan.Cert{Task: x, Alg: 99})
	if !slices.Equal([]api.Errno{e1, e2, e3, e4, e5}, slices.Repeat([]api.Errno{want}, 5)) {
		t.Errorf("%+v on %+v: %v %v %v %v %v, not %v", x, m, e1, e2, e3, e4, e5, want)
	}
	if n != 0 || !sameLow(low, plan.Low{}) || len(costs) > 0 || !isZero(c) {
		t.Errorf("%+v on %+v: %v %v %v %v with %v", x, m, n, low, costs, c, want)
	}
}

// P10.3, P10.4, P10.5: first the error of the task, and then that of the machine.
func TestTaskAndMachineErrors(t *testing.T) {
	for e, l := range wrongTasks() {
		for _, x := range l {
			failsAll(t, exampleMachine(), x, e)
			failsAll(t, plan.Machine{}, x, e)
			failsAll(t, machine(torus(1, 4), [4]int{-1}, 9, 9), x, e)
			for _, rank := range []int{-1, 0, 99} {
				if needs, f := plan.Needs(x, rank, rank); needs || f != e {
					t.Errorf("Needs of %+v: %v %v, not %v", x, needs, f, e)
				}
			}
		}
	}
	for e, l := range wrongMachines() {
		for _, m := range l {
			for _, x := range tasks(4, 1) {
				if x.Procs == 4 {
					failsAll(t, m, x, e)
				}
			}
		}
	}
}

// P10.2: first the error of the schedule, and then that of the machine.
func TestMeasureErrors(t *testing.T) {
	fails := func(m plan.Machine, s coll.Schedule, want api.Errno) {
		t.Helper()
		got, e := plan.Measure(m, s)
		l, f := plan.Rounds(m, s)
		if got != (plan.Totals{}) || e != want || len(l) > 0 || f != want {
			t.Errorf("%+v on %+v: %v %v, %v %v, not %v", s, m, got, e, l, f, want)
		}
	}
	x := task(coll.Bcast, 4, 0, 2)
	wrong := map[api.Errno][]coll.Schedule{
		api.ErrRank:  {of(x, [6]int{0, 0, 4, 0, 0, 0})},
		api.ErrRange: {of(x, [6]int{256, 0, 1, 0, 0, 0}), of(x, [6]int{0, 0, 1, 2, 0, 0})},
		api.ErrArg:   {of(x, [6]int{0, 0, 1, 0, 0, 3}), of(x, [6]int{1, 0, 1, 0, 0, 0}, [6]int{0, 0, 1, 0, 0, 0})},
		api.ErrHave:  {of(x, [6]int{0, 0, 1, 0, 0, 0}, [6]int{0, 0, 1, 1, 0, 0})},
		api.ErrState: {of(x, [6]int{0, 0, 1, 0, 0, 0}, [6]int{0, 0, 2, 0, 0, 0})},
	}
	for e, l := range wrongTasks() {
		for _, y := range l {
			wrong[e] = append(wrong[e], of(y), of(y, [6]int{0, 0, 9, 0, 0, 0}))
		}
	}
	for e, l := range wrong {
		for _, s := range l {
			fails(exampleMachine(), s, e)
			fails(plan.Machine{}, s, e)
			fails(machine(torus(1, 4), [4]int{0, 0, 0, -1}, 0, 0), s, e)
		}
	}
	for e, l := range wrongMachines() {
		for _, m := range l {
			fails(m, of(x), e)
			fails(m, made(t, x, coll.Tree), e)
		}
	}
	fails(exampleMachine(), made(t, task(coll.Bcast, 3, 0, 1), coll.Tree), api.ErrShape)
}

// P10.3: the processes of Needs, and the witnesses of Words.
func TestNeedsAndWordsErrors(t *testing.T) {
	m := exampleMachine()
	for _, x := range tasks(4, 1) {
		for _, rank := range []int{lowest, -2, -1, x.Procs, 64, highest} {
			for _, other := range []int{0, rank, -1, x.Procs - 1} {
				a, e := plan.Needs(x, rank, other)
				b, f := plan.Needs(x, other, rank)
				if a || b || e != api.ErrRange || f != api.ErrRange {
					t.Errorf("Needs of %+v, %d, %d: %v %v, %v %v", x, rank, other, a, e, b, f)
				}
			}
		}
		if x.Procs != 4 {
			continue
		}
		l := []plan.Witness{{}, {Kind: 4}, {Kind: -1, Side: side(m.Net)}, {Kind: highest}, {Kind: lowest}, cut(nil), cut([]bool{}), cut(make([]bool, 3)), cut(make([]bool, 5)), cut(make([]bool, 1000))}
		for _, rank := range []int{lowest, api.NoRank, -1, 4, 64, highest} {
			l = append(l, in(rank), out(rank), plan.Witness{Kind: plan.In, Rank: rank, Side: side(m.Net, 1)}, plan.Witness{Kind: plan.Out, Rank: rank, Side: side(m.Net, 1)})
		}
		for _, w := range l {
			if n, e := plan.Words(m, x, w); n != 0 || e != api.ErrArg {
				t.Errorf("Words of %+v by %+v: %v %v", x, w, n, e)
			}
		}
	}
}

// The limits and kinds are those of the chapter.
func TestNumbers(t *testing.T) {
	if l := []int{plan.MaxPrice, plan.In, plan.Out, plan.Cut}; !slices.Equal(l, []int{1000000, 1, 2, 3}) {
		t.Error(l)
	}
}
