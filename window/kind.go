package window

import (
	"armada/api"
	"armada/sum"
)

// kind is what the actions of a kind have, need and do.
type kind struct {
	rank, at, op, group bool // the fields that are examined
	update              bool // whether it is an access that is kept in order with others like it
	returns             bool // whether it is an access that returns what the cell was
	completes           bool // whether it waits for the remote accesses before it
	hears               int  // the kind of the actions that it waits for, of its partners

	allowed  func(p *process, a Act) bool          // nil: always
	partners func(p *process, a Act) []int         // the processes with whose actions it belongs together
	ready    func(r *run, p *process, a Act) bool  // what it needs in a run besides what it completes
	effect   func(cell int64, a Act) (later int64) // what an access makes of its cell
	enter    func(e *epochs, a Act)                // what it opens and closes
}

// isRemote reports whether actions of a kind are remote accesses, which take effect later.
func (k kind) isRemote() bool { return k.effect != nil && k.rank }

// kinds returns the table of all kinds.
func kinds() map[int]kind {
	remote := (*process).reaches
	group := func(p *process, a Act) []int { return a.Group }
	return map[int]kind{
		Put:   {rank: true, at: true, allowed: remote, effect: put},
		Get:   {rank: true, at: true, allowed: remote, effect: keep, returns: true},
		Acc:   {rank: true, at: true, allowed: remote, effect: join, op: true, update: true},
		Fetch: {rank: true, at: true, allowed: remote, effect: join, op: true, update: true, returns: true},
		Swap:  {rank: true, at: true, allowed: remote, effect: swap, update: true, returns: true},
		Load:  {at: true, effect: keep, returns: true},
		Store: {at: true, effect: put},
		Fence: {
			completes: true, hears: Fence,
			allowed:  func(p *process, a Act) bool { return p.closed() },
			partners: func(p *process, a Act) []int { return p.others },
			ready:    (*run).gathers,
			enter:    func(e *epochs, a Act) { e.fenced = true },
		},
		Post: {
			group:    true,
			allowed:  func(p *process, a Act) bool { return !p.isPosted() && !p.isLocked() },
			partners: group,
			enter:    func(e *epochs, a Act) { e.posted = a.Group },
		},
		Start: {
			group: true, hears: Post,
			allowed:  (*process).begins,
			partners: group,
			ready:    (*run).hears,
			enter:    func(e *epochs, a Act) { e.open = a.Group },
		},
		Complete: {
			completes: true,
			allowed:   func(p *process, a Act) bool { return p.isOpen() },
			partners:  func(p *process, a Act) []int { return p.open },
			enter:     func(e *epochs, a Act) { e.open = nil },
		},
		Wait: {
			hears:    Complete,
			allowed:  func(p *process, a Act) bool { return p.isPosted() && !p.isLocked() },
			partners: func(p *process, a Act) []int { return p.posted },
			ready:    (*run).hears,
			enter:    func(e *epochs, a Act) { e.posted = nil },
		},
		Lock:   {rank: true, allowed: (*process).begins, ready: (*run).grants, enter: hold},
		Share:  {rank: true, allowed: (*process).begins, ready: (*run).grants, enter: hold},
		Flush:  {rank: true, completes: true, allowed: (*process).locks},
		Unlock: {rank: true, completes: true, allowed: (*process).locks, enter: func(e *epochs, a Act) { e.hold = 0 }},
	}
}

func hold(e *epochs, a Act) { e.hold, e.lock = a.Kind, a.Rank }

func keep(cell int64, a Act) int64 { return cell }

func put(cell int64, a Act) int64 { return a.Value }

func swap(cell int64, a Act) int64 {
	if cell == a.Other {
		return a.Value
	}
	return cell
}

func join(cell int64, a Act) int64 {
	v, _ := sum.Do(a.Op, api.VInt, api.Value{Bits: uint64(cell)}, api.Value{Bits: uint64(a.Value)})
	return int64(v.Bits)
}
