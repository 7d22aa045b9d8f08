package window

import "slices"

// epochs is what is open at an action of a process.
type epochs struct {
	fenced bool  // whether a Fence was before
	open   []int // the group of the last Start, until Complete
	posted []int // the group of the last Post, until Wait
	hold   int   // Lock or Share until Unlock, and otherwise 0
	lock   int   // the process whose window is locked then
}

func (e *epochs) isOpen() bool { return len(e.open) > 0 }

func (e *epochs) isPosted() bool { return len(e.posted) > 0 }

func (e *epochs) isLocked() bool { return e.hold != 0 }

// closed reports whether nothing is open.
func (e *epochs) closed() bool { return !e.isOpen() && !e.isPosted() && !e.isLocked() }

// process is a process on its way through its actions.
type process struct {
	epochs
	rank   int
	others []int // the other processes
	acts   []Act
	table  map[int]kind
	next   int // the index of its next action

	pending  []int   // in a run, the indices of the accesses that have yet to take effect
	returned []int64 // in a run, what the accesses have returned, by their indices
}

func (p *process) isDone() bool { return p.next == len(p.acts) }

// act returns the next action.
func (p *process) act() Act { return p.acts[p.next] }

func (p *process) kind() kind { return p.table[p.act().Kind] }

// step goes on behind the next action.
func (p *process) step() {
	if enter := p.kind().enter; enter != nil {
		enter(&p.epochs, p.act())
	}
	p.next++
}

// partners returns the processes with whose actions the next action belongs together.
func (p *process) partners() []int {
	if partners := p.kind().partners; partners != nil {
		return partners(p, p.act())
	}
	return nil
}

// isAllowed reports whether the next action is allowed in the epochs.
func (p *process) isAllowed() bool {
	allowed := p.kind().allowed
	return allowed == nil || allowed(p, p.act())
}

// reaches reports whether a remote access is allowed.
func (p *process) reaches(a Act) bool {
	if p.isOpen() || p.isLocked() {
		return slices.Contains(p.open, a.Rank) || p.locks(a)
	}
	return p.fenced && p.isFencedBehind()
}

// isFencedBehind reports whether a Fence is behind the next action, before other epochs begin.
func (p *process) isFencedBehind() bool {
	for _, a := range p.acts[p.next+1:] {
		switch a.Kind {
		case Fence:
			return true
		case Start, Lock, Share:
			return false
		}
	}
	return false
}

// locks reports whether the window with which an action has to do is locked.
func (p *process) locks(a Act) bool { return p.isLocked() && p.lock == a.Rank }

// begins reports whether an epoch other than one between fences can begin.
func (p *process) begins(Act) bool { return !p.isOpen() && !p.isLocked() }

// completion returns the index of the action that completes an access. Whatever has allowed a remote access, an action of another kind that completes accesses cannot come before the one that completes it.
func (p *process) completion(access int) int {
	if !p.table[p.acts[access].Kind].isRemote() {
		return access
	}
	for !p.table[p.acts[access].Kind].completes {
		access++
	}
	return access
}
