package coll

func bcastLinear(t Task) []phase {
	return []phase{t.relative(phase{t.Procs - 1, func(round, v int) message {
		if v != 0 {
			return message{}
		}
		return message{to: round + 1, runs: t.whole()}
	}})}
}

func bcastTree(t Task) []phase { return []phase{t.down()} }

func bcastChain(t Task) []phase { return []phase{t.chain(1, replace)} }

func bcastSplit(t Task) []phase {
	return []phase{t.halves(t.part), t.relative(t.ring(0, replace, t.part))}
}

func reduceLinear(t Task) []phase {
	below := phase{t.Root, func(round, r int) message {
		return t.toRoot(r, t.Root-1-round, front)
	}}
	above := phase{t.Procs - 1 - t.Root, func(round, r int) message {
		return t.toRoot(r, t.Root+1+round, behind)
	}}
	return []phase{below, above}
}

// toRoot returns the message of a process to the root if it is its turn.
func (t Task) toRoot(r, turn, join int) message {
	if r != turn {
		return message{}
	}
	return message{to: t.Root, join: join, runs: t.whole()}
}

func reduceTree(t Task) []phase {
	return []phase{t.up(behind, func(v, size int) []move { return t.whole() })}
}

func reduceChain(t Task) []phase { return []phase{t.chain(-1, behind)} }

func gatherLinear(t Task) []phase {
	return []phase{t.relative(phase{t.Procs - 1, func(round, v int) message {
		if v != round+1 {
			return message{}
		}
		return message{to: 0, runs: same(t.blockOf(v))}
	}})}
}

func gatherTree(t Task) []phase {
	return []phase{t.up(replace, func(v, size int) []move {
		return several(v, min(v+size, t.Procs), t.blockOf)
	})}
}

func scatterLinear(t Task) []phase {
	return []phase{t.relative(phase{t.Procs - 1, func(round, v int) message {
		if v != 0 {
			return message{}
		}
		return message{to: round + 1, runs: same(t.blockOf(round + 1))}
	}})}
}

func scatterTree(t Task) []phase { return []phase{t.halves(t.blockOf)} }
