package comm

import (
	"cmp"
	"maps"
	"slices"

	"armada/api"
)

// MaxComms is how many communicators a space has at most.
const MaxComms = 64

// Space has the communicators of some processes.
type Space struct {
	groups map[int][]int // by context; nil in a space that is not valid
}

// New returns a space with a communicator of all processes.
func New(n int) (*Space, api.Errno) {
	if n < 1 || n > api.MaxRanks {
		return nil, api.ErrRange
	}
	all := make([]int, n)
	for i := range all {
		all[i] = i
	}
	return &Space{map[int][]int{0: all}}, api.OK
}

func (s *Space) valid() bool { return s != nil && s.groups != nil }

// Contexts returns the contexts of the communicators.
func (s *Space) Contexts() []int {
	if !s.valid() {
		return nil
	}
	return slices.Sorted(maps.Keys(s.groups))
}

// find returns the group of a communicator, which is the space's own memory.
func (s *Space) find(context int) ([]int, api.Errno) {
	if !s.valid() {
		return nil, api.ErrNil
	}
	g, ok := s.groups[context]
	if !ok {
		return nil, api.ErrNone
	}
	return g, api.OK
}

// full reports whether there is no room for some more communicators.
func (s *Space) full(more int) bool { return len(s.groups)+more > MaxComms }

// add makes a communicator, for which there is room, and keeps its group.
func (s *Space) add(g []int) int {
	context := 1
	for s.groups[context] != nil {
		context++
	}
	s.groups[context] = g
	return context
}

// Group returns the group of a communicator.
func (s *Space) Group(context int) ([]int, api.Errno) {
	g, e := s.find(context)
	return slices.Clone(g), e
}

// Dup makes another communicator with the same group.
func (s *Space) Dup(context int) (int, api.Errno) {
	g, e := s.find(context)
	switch {
	case e != api.OK:
		return 0, e
	case s.full(1):
		return 0, api.ErrFull
	}
	return s.add(slices.Clone(g)), api.OK
}

// Make makes a communicator with a group of processes of another one.
func (s *Space) Make(context int, g []int) (int, api.Errno) {
	from, e := s.find(context)
	if e != api.OK {
		return 0, e
	}
	strangers, e := Diff(g, from)
	switch {
	case e != api.OK:
		return 0, e
	case len(g) == 0:
		return 0, api.ErrArg
	case len(strangers) > 0:
		return 0, api.ErrRank
	case s.full(1):
		return 0, api.ErrFull
	}
	return s.add(slices.Clone(g)), api.OK
}

// Split divides a communicator by colors; keys say the order.
func (s *Space) Split(context int, colors, keys []int) ([]int, api.Errno) {
	g, e := s.find(context)
	switch {
	case e != api.OK:
		return nil, e
	case len(colors) != len(g) || len(keys) != len(g):
		return nil, api.ErrShape
	}
	colored := choose(colors, func(rank int) bool { return colors[rank] != api.NoRank })
	slices.Sort(colored)
	if len(colored) > 0 && colored[0] < 0 {
		return nil, api.ErrArg
	}
	different := slices.Compact(colored)
	if s.full(len(different)) {
		return nil, api.ErrFull
	}
	out := slices.Repeat([]int{api.NoRank}, len(g))
	order := ranksByKey(keys)
	for _, color := range different {
		ranks := choose(order, func(i int) bool { return colors[order[i]] == color })
		made := s.add(withRanks(g, ranks))
		for _, r := range ranks {
			out[r] = made
		}
	}
	return out, api.OK
}

// ranksByKey returns all ranks, sorted by their keys, those with equal keys in order.
func ranksByKey(keys []int) []int {
	ranks := make([]int, len(keys))
	for i := range ranks {
		ranks[i] = i
	}
	slices.SortStableFunc(ranks, func(a, b int) int { return cmp.Compare(keys[a], keys[b]) })
	return ranks
}

// Free removes a communicator.
func (s *Space) Free(context int) api.Errno {
	_, e := s.find(context)
	switch {
	case e != api.OK:
		return e
	case context == 0:
		return api.ErrState
	}
	delete(s.groups, context)
	return api.OK
}

// Copy returns an independent space.
func (s *Space) Copy() *Space {
	if !s.valid() {
		return nil
	}
	groups := map[int][]int{}
	for context, g := range s.groups {
		groups[context] = slices.Clone(g)
	}
	return &Space{groups}
}
