package lang_test

import (
	"slices"
	"testing"

	"armada/api"
	"armada/lang"
)

// agree reports whether two outputs agree as far as both go.
func agree(a, b []int64) bool {
	n := min(len(a), len(b))
	return slices.Equal(a[:n], b[:n])
}

// network is how messages are sent.
type network struct{ eager, credits int }

func networks() []network {
	return []network{{16, 64}, {16, 1}, {16, 2}, {15, 64}, {0, 0}, {4096, 0}, {20, 3}}
}

// conflicts reports whether a process has failed with ErrConflict.
func conflicts(l []shown) bool {
	return slices.ContainsFunc(l, func(x shown) bool { return x.state.Errno == api.ErrConflict })
}

// sends returns how many messages a process has begun to send to one other process, or itself, at most.
func sends(l []shown) int {
	most := 0
	for _, x := range l {
		to := map[int]int{}
		for _, e := range x.events {
			if e.Kind == lang.ESend {
				to[e.Peer]++
				most = max(most, to[e.Peer])
			}
		}
	}
	return most
}

// finals returns the final states and outputs.
func finals(l []shown) []shown {
	var out []shown
	for _, x := range l {
		out = append(out, shown{state: x.state, output: x.output, vars: x.vars})
	}
	return out
}

// tamePrograms returns programs that are not wild, and run for a while.
func tamePrograms(d *dice) ([][]lang.Node, int) {
	n := 1 + d.roll(4)
	var l [][]lang.Node
	for range pick(d, 1, n) {
		l = append(l, tame(d, false, 1+d.roll(8)))
	}
	return l, n
}

// P7.10: without programs that are wild, outputs agree in all runs, and are equal, as are the states, in those that are done.
func TestOutputsAgree(t *testing.T) {
	d := dice(101)
	finished := 0
	for range 1200 {
		l, n := tamePrograms(&d)
		var whole, all []shown
		for k := range 12 {
			x := networks()[d.roll(len(networks()))]
			m := machineOf(t, l, n, x.eager, x.credits)
			r, e := m.Run(uint64(d.roll(1<<30)), pick(&d, d.roll(200), lang.MaxSteps))
			if e != api.OK {
				t.Fatal(e)
			}
			s := look(m, "x", "y", "z", "a1", "b_")
			if k == 0 {
				all = s
			}
			for p := range n {
				if !agree(s[p].output, all[p].output) {
					t.Fatalf("%d: %v %v", p, s[p].output, all[p].output)
				}
				if len(s[p].output) > len(all[p].output) {
					all[p].output = s[p].output
				}
			}
			if !r.Done {
				continue
			}
			finished++
			if whole == nil {
				whole = finals(s)
			}
			if !same(finals(s), whole) {
				t.Fatalf("%+v\n%+v", finals(s), whole)
			}
		}
	}
	if finished < 2000 {
		t.Error("only", finished, "runs are done")
	}
}

// P7.10: without credits, or with enough of them, it does not depend on the seed whether a run is stuck, and what its outputs are then.
func TestStuckOrNot(t *testing.T) {
	d := dice(102)
	stuck, done := 0, 0
	for range 1200 {
		l, n := tamePrograms(&d)
		for _, x := range []network{{16, 0}, {0, 0}, {16, 64}, {300, 20}} {
			var first []shown
			var was lang.Result
			conflict := false
			for range 5 {
				m := machineOf(t, l, n, x.eager, x.credits)
				r := run(t, m, uint64(d.roll(1<<30)))
				s := look(m, "x", "y", "z")
				conflict = conflict || conflicts(s) || sends(s) > x.credits && x.credits > 0
				if first == nil {
					first, was = finals(s), r
				}
				if conflict {
					break
				}
				if r.Stuck != was.Stuck || !same(finals(s), first) {
					t.Fatalf("%+v %+v\n%+v\n%+v", r, was, finals(s), first)
				}
			}
			if was.Stuck {
				stuck++
			} else {
				done++
			}
		}
	}
	if stuck < 500 || done < 500 {
		t.Error(stuck, "are stuck,", done, "are done")
	}
}

// P7.11: a run that its limit ended and that is continued, be it often, has the outputs of any run that is done.
func TestContinuedRuns(t *testing.T) {
	d := dice(103)
	finished := 0
	for range 1500 {
		l, n := tamePrograms(&d)
		x := networks()[d.roll(len(networks()))]
		whole := machineOf(t, l, n, x.eager, x.credits)
		want := run(t, whole, uint64(d.roll(1<<30)))
		m := machineOf(t, l, n, x.eager, x.credits)
		var r lang.Result
		for !r.Done && !r.Stuck {
			var e api.Errno
			r, e = m.Run(uint64(d.roll(1<<30)), 1+d.roll(50))
			if e != api.OK {
				t.Fatal(e)
			}
		}
		if want.Done && r.Done {
			finished++
			if !same(finals(look(m, "x", "y")), finals(look(whole, "x", "y"))) {
				t.Fatalf("%+v\n%+v", look(m), look(whole))
			}
		}
	}
	if finished < 300 {
		t.Error("only", finished)
	}
}

// P7.10: with programs that are wild, the outputs can depend on the seed.
func TestWildRuns(t *testing.T) {
	seen := map[int64]bool{}
	for seed := range uint64(50) {
		m := machine(t, 3, 1, "recv x, any, any; recv y, any, any; print x * 10 + y;", "send 0, 0, 1;", "send 0, 0, 2;")
		run(t, m, seed)
		l, _ := m.Output(0)
		seen[l[0]] = true
	}
	if len(seen) != 2 || !seen[12] || !seen[21] {
		t.Error(seen)
	}
}

// P7.5: a process that is fed with the events that it had has the same ones, prints the same, and ends or fails in the same way.
func TestFedWithItsEvents(t *testing.T) {
	d := dice(104)
	over := 0
	for range 1000 {
		n := 1 + d.roll(4)
		var l [][]lang.Node
		for range n {
			l = append(l, tame(&d, true, 1+d.roll(8)))
		}
		m := machineOf(t, l, n, 16, d.roll(5))
		run(t, m, uint64(d.roll(1<<30)))
		p := d.roll(n)
		want := look(m)[p]
		again := machineOf(t, l, n, 16, 0)
		is(t, "Feed", again.Feed(p, want.events), api.OK)
		onward(t, again, p)
		got := look(again)[p]
		if want.state.Kind != lang.Ended && want.state.Kind != lang.Failed || want.state.Errno == api.ErrConflict {
			continue
		}
		over++
		if !same([]shown{got}, []shown{want}) {
			t.Fatalf("%+v\n%+v", got, want)
		}
	}
	if over < 200 {
		t.Error("only", over)
	}
}
