package plan

import (
	"slices"

	"armada/api"
	"armada/coll"
)

// choices returns a certificate, still without a bound, for each algorithm.
func (s setting) choices() []Cert {
	algs, _ := coll.Algorithms(s.task)
	out := make([]Cert, len(algs))
	for i, alg := range algs {
		made, _ := coll.Make(s.task, alg)
		out[i] = Cert{Task: made.Task, Alg: alg, Totals: s.measure(made.Steps)}
	}
	return out
}

// Costs returns the totals of all algorithms for a task.
func Costs(m Machine, t coll.Task) ([]Totals, api.Errno) {
	s, e := settingOf(m, t)
	if e != api.OK {
		return nil, e
	}
	var out []Totals
	for _, c := range s.choices() {
		out = append(out, c.Totals)
	}
	return out, api.OK
}

// Choose returns the cheapest algorithm, with a certificate.
func Choose(m Machine, t coll.Task) (Cert, api.Errno) {
	s, e := settingOf(m, t)
	if e != api.OK {
		return Cert{}, e
	}
	best, _ := greatest(slices.Values(s.choices()), func(c Cert) int { return -c.Totals.Cost })
	best.Low = s.bound()
	return best, api.OK
}

// Verify checks a certificate.
func Verify(m Machine, c Cert) api.Errno {
	s, e := settingOf(m, c.Task)
	if e != api.OK {
		return e
	}
	made, e := coll.Make(c.Task, c.Alg)
	if e != api.OK || s.measure(made.Steps) != c.Totals || !s.keeps(c.Low) {
		return api.ErrBound
	}
	return api.OK
}
