package window

import "armada/api"

// needs are the actions of other processes that belong together with an action which waits for them.
type needs struct {
	places []Place
	lacks  bool // whether there is none for one of the partners: it is waited for in vain
}

// signal is what the actions of a kind of one process tell another one.
type signal struct{ kind, from, to int }

// link checks a program, and finds what its actions wait for.
func link(p Program) (*program, api.Errno) {
	x, _, e := examine(p)
	if e != api.OK {
		return nil, e
	}
	given := x.signals()
	for rank := range x.Acts {
		x.needs = append(x.needs, x.needsOf(rank, given))
	}
	return x, api.OK
}

// signals returns with which actions each signal is given.
func (x *program) signals() map[signal][]int {
	given := map[signal][]int{}
	for rank := range x.Acts {
		for p := x.begin(rank); !p.isDone(); p.step() {
			for _, to := range p.partners() {
				s := signal{p.act().Kind, rank, to}
				given[s] = append(given[s], p.next)
			}
		}
	}
	return given
}

// needsOf returns what the actions of a process wait for: with each of them it takes the next signal of each partner.
func (x *program) needsOf(rank int, given map[signal][]int) []needs {
	all := make([]needs, len(x.Acts[rank]))
	taken := map[signal]int{}
	for p := x.begin(rank); !p.isDone(); p.step() {
		hears, n := p.kind().hears, &all[p.next]
		if hears == 0 {
			continue
		}
		for _, from := range p.partners() {
			s := signal{hears, from, rank}
			if l := given[s]; taken[s] < len(l) {
				n.places = append(n.places, Place{from, l[taken[s]]})
			} else {
				n.lacks = true
			}
			taken[s]++
		}
	}
	return all
}
