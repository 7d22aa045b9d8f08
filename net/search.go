package net

import "iter"

// queue has elements, which are taken in the order in which they were put there.
type queue[T any] struct {
	elements []T
	taken    int
}

func (q *queue[T]) put(x T) { q.elements = append(q.elements, x) }

func (q *queue[T]) empty() bool { return q.taken == len(q.elements) }

// take returns the first element of a queue that is not empty.
func (q *queue[T]) take() T {
	x := q.elements[q.taken]
	q.taken++
	return x
}

// trail is how a search came to a place.
type trail struct {
	at     int
	steps  int
	before *trail // nil at the start
}

// places returns the places of a trail, from its start on.
func (t *trail) places() []int {
	out := make([]int, t.steps+1)
	for ; t != nil; t = t.before {
		out[t.steps] = t.at
	}
	return out
}

// search yields a trail from a start to each of count places that can be reached by allowed steps. next yields where the steps from a place lead. Shorter trails come first, and trails of one length in the order of the steps: if these ascend, a trail is the least one of its length.
func search(count, start int, next func(at int) iter.Seq[int], allowed func(from, to int) bool) iter.Seq[*trail] {
	return func(yield func(*trail) bool) {
		var waiting queue[*trail]
		waiting.put(&trail{at: start})
		seen := make([]bool, count)
		seen[start] = true
		for !waiting.empty() {
			t := waiting.take()
			if !yield(t) {
				return
			}
			for to := range next(t.at) {
				if !seen[to] && allowed(t.at, to) {
					seen[to] = true
					waiting.put(&trail{to, t.steps + 1, t})
				}
			}
		}
	}
}

// anyStep allows all steps.
func anyStep(from, to int) bool { return true }

// unreached is the distance of switches between which there is no path of allowed steps.
const unreached = -1

// distances returns the least lengths of paths from a switch to all switches.
func distances(n network, from int, allowed func(from, to int) bool) []int {
	switches, _ := n.size()
	out := make([]int, switches)
	for x := range out {
		out[x] = unreached
	}
	for t := range search(switches, from, n.neighbors, allowed) {
		out[t.at] = t.steps
	}
	return out
}
