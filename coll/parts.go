package coll

// same returns runs of slots that come into the slots with the same numbers.
func same(l ...run) []move {
	var out []move
	for _, r := range l {
		out = append(out, move{r, r.first})
	}
	return out
}

// whole returns all slots, to be sent into the same ones.
func (t Task) whole() []move { return same(run{0, t.slots()}) }

// several returns what a function returns for the numbers from first to end - 1, to be sent into the same slots.
func several(first, end int, of func(i int) run) []move {
	var out []run
	for i := first; i < end; i++ {
		out = append(out, of(i))
	}
	return same(out...)
}

// process returns the process with a relative number.
func (t Task) process(v int) int { return modulo(v+t.Root, t.Procs) }

// blockOf returns the block of the process with a relative number.
func (t Task) blockOf(v int) run { return t.block(t.process(v)) }

// next returns the process that is some places after another one, around.
func (t Task) next(r, by int) int { return modulo(r+by, t.Procs) }

// relative returns a phase whose processes are named by relative numbers.
func (t Task) relative(f phase) phase {
	return phase{f.rounds, func(round, from int) message {
		m := f.send(round, modulo(from-t.Root, t.Procs))
		m.to = t.process(m.to)
		return m
	}}
}

// ring returns the phase in which each process sends to the next one what it got before: at first the run whose number is its own plus by.
func (t Task) ring(by, join int, of func(i int) run) phase {
	return phase{t.Procs - 1, func(round, r int) message {
		return message{to: t.next(r, 1), join: join, runs: same(of(t.next(r, by-round)))}
	}}
}

// halves returns the phase in which processes that have the runs of many relative numbers send half of them.
func (t Task) halves(of func(i int) run) phase {
	q := doublings(t.Procs)
	return t.relative(phase{q, func(k, v int) message {
		h := 1 << (q - 1 - k)
		if v%(2*h) != 0 || v+h >= t.Procs {
			return message{}
		}
		return message{to: v + h, runs: several(v+h, min(v+2*h, t.Procs), of)}
	}})
}

// up returns the phase in which processes send, as in a tree, to the one below which they are.
func (t Task) up(join int, of func(v, size int) []move) phase {
	return t.relative(phase{doublings(t.Procs), func(k, v int) message {
		size := 1 << k
		if v%(2*size) != size {
			return message{}
		}
		return message{to: v - size, join: join, runs: of(v, size)}
	}})
}

// down returns the phase in which processes send all slots, as in a tree, to those that are below them.
func (t Task) down() phase {
	return t.relative(phase{doublings(t.Procs), func(k, v int) message {
		if v >= 1<<k || v+1<<k >= t.Procs {
			return message{}
		}
		return message{to: v + 1<<k, runs: t.whole()}
	}})
}

// chain returns the phase in which slots go one by one through all processes: by is 1 away from the root, and -1 to it.
func (t Task) chain(by, join int) phase {
	return t.relative(phase{t.Parts + t.Procs - 2, func(round, v int) message {
		before := v
		if by < 0 {
			before = t.Procs - 1 - v
		}
		slot := round - before
		if !t.has(v+by) || slot < 0 || slot >= t.Parts {
			return message{}
		}
		return message{to: v + by, join: join, runs: same(run{slot, 1})}
	}})
}

// local returns the phase of one round in which each process sends runs to itself.
func local(of func(r int) []move) phase {
	return phase{1, func(round, r int) message { return message{to: r, runs: of(r)} }}
}
