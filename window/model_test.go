package window_test

import (
	"math/big"
	"slices"

	"armada/api"
	"armada/window"
)

// model follows the chapter word by word: it looks for all that it needs in the lists of actions, each time anew.
type model struct{ program }

func (m model) isProcess(rank int) bool { return rank >= 0 && rank < len(m.Acts) }

func among(kind int, kinds ...int) bool { return slices.Contains(kinds, kind) }

func isRemote(kind int) bool {
	return among(kind, window.Put, window.Get, window.Acc, window.Fetch, window.Swap)
}

func isLocal(kind int) bool { return among(kind, window.Load, window.Store) }

func isUpdate(kind int) bool { return among(kind, window.Acc, window.Fetch, window.Swap) }

// returnsValue reports whether accesses of a kind return a value.
func returnsValue(kind int) bool {
	return among(kind, window.Get, window.Fetch, window.Swap, window.Load)
}

// last returns the index of the last action of some kinds before an index, or -1.
func last(l []act, index int, kinds ...int) int {
	for i := index - 1; i >= 0; i-- {
		if among(l[i].Kind, kinds...) {
			return i
		}
	}
	return -1
}

// next returns the index of the next action of some kinds behind an index, or the number of actions.
func next(l []act, index int, kinds ...int) int {
	for i := index + 1; i < len(l); i++ {
		if among(l[i].Kind, kinds...) {
			return i
		}
	}
	return len(l)
}

// openGroup returns the open group at an action, if there is one.
func openGroup(l []act, index int) ([]int, bool) {
	if i := last(l, index, window.Start, window.Complete); i >= 0 && l[i].Kind == window.Start {
		return l[i].Group, true
	}
	return nil, false
}

// postedGroup returns the posted group at an action, if there is one.
func postedGroup(l []act, index int) ([]int, bool) {
	if i := last(l, index, window.Post, window.Wait); i >= 0 && l[i].Kind == window.Post {
		return l[i].Group, true
	}
	return nil, false
}

// lockAt returns the lock at an action, and whether it is shared, if there is one.
func lockAt(l []act, index int) (rank int, shared, is bool) {
	if i := last(l, index, window.Lock, window.Share, window.Unlock); i >= 0 && l[i].Kind != window.Unlock {
		return l[i].Rank, l[i].Kind == window.Share, true
	}
	return 0, false, false
}

// allowance says what allows a remote access: an action of the kinds that complete it, or none.
func allowance(l []act, index int) []int {
	group, open := openGroup(l, index)
	locked, _, lock := lockAt(l, index)
	switch rank := l[index].Rank; {
	case open && slices.Contains(group, rank):
		return []int{window.Complete}
	case lock && rank == locked:
		return []int{window.Flush, window.Unlock}
	case !open && !lock && last(l, index, window.Fence) >= 0 && isFenced(l, index):
		return []int{window.Fence}
	}
	return nil
}

// isFenced reports whether a Fence is behind an action before each Start, Lock and Share behind it, and before the end.
func isFenced(l []act, index int) bool {
	fence := next(l, index, window.Fence)
	for i := index + 1; i <= len(l); i++ {
		if (i == len(l) || among(l[i].Kind, window.Start, window.Lock, window.Share)) && fence >= i {
			return false
		}
	}
	return true
}

// isAllowed reports whether an action is allowed.
func isAllowed(l []act, index int) bool {
	_, open := openGroup(l, index)
	_, posted := postedGroup(l, index)
	locked, _, lock := lockAt(l, index)
	if index == len(l) {
		return !open && !posted && !lock
	}
	switch a := l[index]; a.Kind {
	case window.Load, window.Store:
		return true
	case window.Fence:
		return !open && !posted && !lock
	case window.Post:
		return !posted && !lock
	case window.Start, window.Lock, window.Share:
		return !open && !lock
	case window.Complete:
		return open
	case window.Wait:
		return posted && !lock
	case window.Flush, window.Unlock:
		return lock && a.Rank == locked
	}
	return allowance(l, index) != nil
}

// check is P11.1.
func (m model) check() (place, api.Errno) {
	if m.Cells < 1 || m.Cells > 64 {
		return place{}, api.ErrRange
	}
	if len(m.Acts) == 0 || len(m.Acts) > 64 {
		return place{}, api.ErrMany
	}
	for rank, l := range m.Acts {
		if len(l) > 100 {
			return place{Rank: rank, Index: 100}, api.ErrMany
		}
		for index := range l {
			if e := m.checkAct(rank, index); e != api.OK {
				return place{Rank: rank, Index: index}, e
			}
		}
		if !isAllowed(l, len(l)) {
			return place{Rank: rank, Index: len(l)}, api.ErrState
		}
	}
	return place{}, api.OK
}

func (m model) checkAct(rank, index int) api.Errno {
	l := m.Acts[rank]
	a := l[index]
	if a.Kind < 1 || a.Kind > 16 {
		return api.ErrArg
	}
	if (isRemote(a.Kind) || among(a.Kind, window.Lock, window.Share, window.Flush, window.Unlock)) && !m.isProcess(a.Rank) {
		return api.ErrRank
	}
	if (isRemote(a.Kind) || isLocal(a.Kind)) && (a.At < 0 || a.At >= m.Cells) {
		return api.ErrRange
	}
	if among(a.Kind, window.Acc, window.Fetch) && (a.Op < 1 || a.Op > 11) {
		return api.ErrArg
	}
	if among(a.Kind, window.Acc, window.Fetch) && a.Op > 9 {
		return api.ErrType
	}
	if among(a.Kind, window.Post, window.Start) {
		if len(a.Group) == 0 {
			return api.ErrArg
		}
		for i, other := range a.Group {
			if !m.isProcess(other) || other == rank {
				return api.ErrRank
			}
			if slices.Index(a.Group, other) < i {
				return api.ErrHave
			}
		}
	}
	if !isAllowed(l, index) {
		return api.ErrState
	}
	return api.OK
}

// number returns how many actions of a kind whose Group has a process are before an index.
func number(l []act, index, kind, rank int) int {
	n := 0
	for _, a := range l[:index] {
		if a.Kind == kind && (kind == window.Fence || slices.Contains(a.Group, rank)) {
			n++
		}
	}
	return n
}

// find returns the index of the action with a number, or -1.
func find(l []act, n, kind, rank int) int {
	for index, a := range l {
		if a.Kind == kind && (kind == window.Fence || slices.Contains(a.Group, rank)) && number(l, index, kind, rank) == n {
			return index
		}
	}
	return -1
}

// partners returns the places for which a Fence, Start or Wait waits; the index is -1 where there is none.
func (m model) partners(at place) []place {
	l := m.Acts[at.Rank]
	var out []place
	switch l[at.Index].Kind {
	case window.Fence:
		for other := range m.Acts {
			if other != at.Rank {
				out = append(out, place{Rank: other, Index: find(m.Acts[other], number(l, at.Index, window.Fence, 0), window.Fence, 0)})
			}
		}
	case window.Start:
		for _, other := range l[at.Index].Group {
			n := number(l, at.Index, window.Start, other)
			out = append(out, place{Rank: other, Index: find(m.Acts[other], n, window.Post, at.Rank)})
		}
	case window.Wait:
		opened := last(l, at.Index, window.Post)
		for _, other := range l[opened].Group {
			n := number(l, opened, window.Post, other)
			x := place{Rank: other, Index: find(m.Acts[other], n, window.Start, at.Rank)}
			if x.Index >= 0 {
				x.Index = next(m.Acts[other], x.Index, window.Complete)
			}
			out = append(out, x)
		}
	}
	return out
}

// before returns for each two places whether the first one comes before the second one, both by their numbers in the list of places.
func (m model) before() [][]bool {
	all := places(m.program)
	out := make([][]bool, len(all))
	for i, x := range all {
		out[i] = make([]bool, len(all))
		for k, y := range all {
			out[i][k] = x.Rank == y.Rank && x.Index < y.Index
		}
	}
	for _, receiver := range all {
		for _, sender := range m.partners(receiver) {
			for i, x := range all {
				for k, y := range all {
					if x.Rank == sender.Rank && x.Index <= sender.Index && y.Rank == receiver.Rank && y.Index > receiver.Index {
						out[i][k] = true
					}
				}
			}
		}
	}
	for via := range all {
		for i := range all {
			for k := range all {
				out[i][k] = out[i][k] || out[i][via] && out[via][k]
			}
		}
	}
	return out
}

// completion returns the place of what completes an access.
func (m model) completion(x place) place {
	l := m.Acts[x.Rank]
	if isRemote(l[x.Index].Kind) {
		x.Index = next(l, x.Index, allowance(l, x.Index)...)
	}
	return x
}

// target returns the process and the number of the cell that an access accesses.
func (m model) target(x place) (rank, at int) {
	a := m.Acts[x.Rank][x.Index]
	if isLocal(a.Kind) {
		return x.Rank, a.At
	}
	return a.Rank, a.At
}

func (m model) sameCell(x, y place) bool {
	rank, at := m.target(x)
	rank2, at2 := m.target(y)
	return rank == rank2 && at == at2
}

func (m model) act(x place) act { return m.Acts[x.Rank][x.Index] }

// conflict reports whether two accesses conflict.
func (m model) conflict(x, y place) bool {
	a, b := m.act(x), m.act(y)
	if among(a.Kind, window.Get, window.Load) && among(b.Kind, window.Get, window.Load) {
		return false
	}
	if a.Kind == window.Acc && b.Kind == window.Acc && a.Op == b.Op {
		return false
	}
	return m.sameCell(x, y)
}

// accesses returns the places of all accesses.
func (m model) accesses() []place {
	return slices.DeleteFunc(places(m.program), func(x place) bool { return !isRemote(m.act(x).Kind) && !isLocal(m.act(x).Kind) })
}

// ordered returns a function that says whether an access is ordered before another one.
func (m model) ordered() func(x, y place) bool {
	before, all := m.before(), places(m.program)
	return func(x, y place) bool {
		if before[slices.Index(all, m.completion(x))][slices.Index(all, y)] {
			return true
		}
		return x.Rank == y.Rank && x.Index < y.Index && isUpdate(m.act(x).Kind) && isUpdate(m.act(y).Kind) && m.sameCell(x, y)
	}
}

// races is P11.3.
func (m model) races() [][2]place {
	var out [][2]place
	ordered, l := m.ordered(), m.accesses()
	for i, x := range l {
		for _, y := range l[i+1:] {
			if m.conflict(x, y) && !ordered(x, y) && !ordered(y, x) {
				out = append(out, [2]place{x, y})
			}
		}
	}
	return out
}

// modelRun is a run: how many actions of each process are done, and what has yet to take effect.
type modelRun struct {
	model
	done    []int
	pending [][]int
	memory  [][]int64
	values  map[place]int64
}

// isPending reports whether an access that an action completes is pending.
func (r *modelRun) isPending(rank, index int) bool {
	for _, i := range r.pending[rank] {
		if r.completion(place{Rank: rank, Index: i}).Index == index {
			return true
		}
	}
	return false
}

// canDo reports whether a process can do its next action.
func (r *modelRun) canDo(rank int) bool {
	index := r.done[rank]
	if index == len(r.Acts[rank]) {
		return false
	}
	a := r.Acts[rank][index]
	switch a.Kind {
	case window.Lock, window.Share:
		for other, l := range r.Acts {
			if locked, shared, is := lockAt(l, r.done[other]); is && locked == a.Rank && !(shared && a.Kind == window.Share) {
				return false
			}
		}
	case window.Fence, window.Start, window.Wait:
		if a.Kind == window.Fence && r.isPending(rank, index) {
			return false
		}
		for _, x := range r.partners(place{Rank: rank, Index: index}) {
			done := x.Index >= 0 && r.done[x.Rank] > x.Index
			there := a.Kind == window.Fence && x.Index >= 0 && r.done[x.Rank] == x.Index && !r.isPending(x.Rank, x.Index)
			if !done && !there {
				return false
			}
		}
	case window.Complete, window.Flush, window.Unlock:
		return !r.isPending(rank, index)
	}
	return true
}

// canTake reports whether an access that is pending can take effect.
func (r *modelRun) canTake(rank, i int) bool {
	x := place{Rank: rank, Index: r.pending[rank][i]}
	for _, earlier := range r.pending[rank][:i] {
		y := place{Rank: rank, Index: earlier}
		if isUpdate(r.act(x).Kind) && isUpdate(r.act(y).Kind) && r.sameCell(x, y) {
			return false
		}
	}
	return true
}

// modelDo is what an operation makes of two integers.
func modelDo(op int, a, b int64) int64 {
	x, y := big.NewInt(a), big.NewInt(b)
	switch op {
	case api.OpSum:
		x.Add(x, y)
	case api.OpProd:
		x.Mul(x, y)
	case api.OpMin:
		return min(a, b)
	case api.OpMax:
		return max(a, b)
	case api.OpAnd:
		return a & b
	case api.OpOr:
		return a | b
	case api.OpXor:
		return a ^ b
	case api.OpAll:
		return int64(truth(a != 0 && b != 0))
	case api.OpAny:
		return int64(truth(a != 0 || b != 0))
	}
	low := new(big.Int).And(x, new(big.Int).SetUint64(1<<64-1))
	return int64(low.Uint64())
}

// take lets an access take effect.
func (r *modelRun) take(x place) {
	a := r.act(x)
	rank, at := r.target(x)
	cell := &r.memory[rank][at]
	if returnsValue(a.Kind) {
		r.values[x] = *cell
	}
	switch a.Kind {
	case window.Put, window.Store:
		*cell = a.Value
	case window.Acc, window.Fetch:
		*cell = modelDo(a.Op, *cell, a.Value)
	case window.Swap:
		if *cell == a.Other {
			*cell = a.Value
		}
	}
}

// happen does one of the candidates, which a number says, and returns how many there are; with a number that is too great nothing happens.
func (r *modelRun) happen(number int) int {
	n := 0
	count := func() bool { n++; return n-1 == number }
	for rank := range r.Acts {
		if r.canDo(rank) && count() {
			x := place{Rank: rank, Index: r.done[rank]}
			r.done[rank]++
			if kind := r.act(x).Kind; isLocal(kind) {
				r.take(x)
			} else if isRemote(kind) {
				r.pending[rank] = append(r.pending[rank], x.Index)
			}
			return n
		}
	}
	for rank := range r.Acts {
		for i, index := range r.pending[rank] {
			if r.canTake(rank, i) && count() {
				r.pending[rank] = slices.Delete(r.pending[rank], i, i+1)
				r.take(place{Rank: rank, Index: index})
				return n
			}
		}
	}
	return n
}

// newModelRun returns a run in which nothing is done.
func (m model) newModelRun() *modelRun {
	n := len(m.Acts)
	r := &modelRun{model: m, done: make([]int, n), pending: make([][]int, n), memory: make([][]int64, n), values: map[place]int64{}}
	for rank := range r.memory {
		r.memory[rank] = make([]int64, m.Cells)
	}
	return r
}

// run is P11.4.
func (m model) run(seed uint64) result {
	r, g := m.newModelRun(), generator(seed)
	for n := r.happen(highest); n > 0; n = r.happen(highest) {
		r.happen(g.draw(n))
	}
	return r.result()
}

// result returns what a run that is over leaves behind.
func (r *modelRun) result() result {
	out := result{Memory: r.memory, Values: make([][]int64, len(r.Acts))}
	for _, x := range places(r.program) {
		if v, is := r.values[x]; is {
			out.Values[x.Rank] = append(out.Values[x.Rank], v)
		}
	}
	for rank, l := range r.Acts {
		if r.done[rank] < len(l) {
			out.Stuck = append(out.Stuck, rank)
		}
	}
	return out
}
