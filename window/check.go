package window

import (
	"slices"

	"armada/api"
	"armada/sum"
)

// program is a program that was examined, with what its actions wait for.
type program struct {
	Program
	table map[int]kind
	needs [][]needs
}

// Check checks a program. With an error it also returns the place of it.
func Check(p Program) (Place, api.Errno) {
	_, at, e := examine(p)
	return at, e
}

// examine checks a program, and returns it without what its actions wait for.
func examine(p Program) (*program, Place, api.Errno) {
	if p.Cells < 1 || p.Cells > MaxCells {
		return nil, Place{}, api.ErrRange
	}
	if len(p.Acts) == 0 || len(p.Acts) > api.MaxRanks {
		return nil, Place{}, api.ErrMany
	}
	x := &program{Program: p, table: kinds()}
	for rank := range p.Acts {
		if index, e := x.examineProcess(rank); e != api.OK {
			return nil, Place{rank, index}, e
		}
	}
	return x, Place{}, api.OK
}

// begin returns a process before its first action.
func (x *program) begin(rank int) *process {
	p := &process{rank: rank, acts: x.Acts[rank], table: x.table}
	for other := range x.Acts {
		if other != rank {
			p.others = append(p.others, other)
		}
	}
	return p
}

func (x *program) examineProcess(rank int) (int, api.Errno) {
	p := x.begin(rank)
	if len(p.acts) > MaxActs {
		return MaxActs, api.ErrMany
	}
	for ; !p.isDone(); p.step() {
		if e := x.examineAct(p); e != api.OK {
			return p.next, e
		}
	}
	if !p.closed() {
		return p.next, api.ErrState
	}
	return 0, api.OK
}

// examineAct checks the next action of a process.
func (x *program) examineAct(p *process) api.Errno {
	a := p.act()
	k, known := x.table[a.Kind]
	if !known {
		return api.ErrArg
	}
	if k.rank && !x.isProcess(a.Rank) {
		return api.ErrRank
	}
	if k.at && (a.At < 0 || a.At >= x.Cells) {
		return api.ErrRange
	}
	if k.op {
		if e := sum.Check(a.Op, api.VInt); e != api.OK {
			return e
		}
	}
	if k.group {
		if e := x.examineGroup(a.Group, p.rank); e != api.OK {
			return e
		}
	}
	if !p.isAllowed() {
		return api.ErrState
	}
	return api.OK
}

func (x *program) isProcess(rank int) bool { return rank >= 0 && rank < len(x.Acts) }

// examineGroup checks a group of partners of a process.
func (x *program) examineGroup(group []int, rank int) api.Errno {
	if len(group) == 0 {
		return api.ErrArg
	}
	for i, other := range group {
		if !x.isProcess(other) || other == rank {
			return api.ErrRank
		}
		if slices.Contains(group[:i], other) {
			return api.ErrHave
		}
	}
	return api.OK
}

// exists reports whether a place exists.
func (x *program) exists(at Place) bool {
	return x.isProcess(at.Rank) && at.Index >= 0 && at.Index < len(x.Acts[at.Rank])
}
