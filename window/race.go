package window

import "armada/api"

// cell names a cell of the window of a process.
type cell struct{ rank, at int }

// access is an action that accesses a cell.
type access struct {
	place  Place
	until  Place // what completes it
	cell   cell
	update bool
	act    Act
}

// cellOf returns the cell that an access of a process accesses.
func (p *process) cellOf(index int) cell {
	a := p.acts[index]
	if p.table[a.Kind].isRemote() {
		return cell{a.Rank, a.At}
	}
	return cell{p.rank, a.At}
}

// accesses returns all accesses, in the order of their places.
func (x *program) accesses() []access {
	var out []access
	for rank, acts := range x.Acts {
		p := x.begin(rank)
		for index, a := range acts {
			if k := x.table[a.Kind]; k.effect != nil {
				out = append(out, access{Place{rank, index}, Place{rank, p.completion(index)}, p.cellOf(index), k.update, a})
			}
		}
	}
	return out
}

func (a *access) reads() bool { return a.act.Kind == Get || a.act.Kind == Load }

// conflicts reports whether it matters which one of two accesses takes effect first.
func (a *access) conflicts(b *access) bool {
	if a.cell != b.cell || a.reads() && b.reads() {
		return false
	}
	return a.act.Kind != Acc || b.act.Kind != Acc || a.act.Op != b.act.Op
}

// orders reports whether an access to a cell is ordered before another one.
func (o *order) orders(a, b *access) bool {
	if a.update && b.update && a.place.Rank == b.place.Rank && a.place.Index < b.place.Index {
		return true
	}
	return o.has(a.until, b.place)
}

// Races returns all pairs of accesses that race.
func Races(p Program) ([][2]Place, api.Errno) {
	x, e := link(p)
	if e != api.OK {
		return nil, e
	}
	o, l := x.order(), x.accesses()
	var out [][2]Place
	for i := range l {
		for k := i + 1; k < len(l); k++ {
			if a, b := &l[i], &l[k]; a.conflicts(b) && !o.orders(a, b) && !o.orders(b, a) {
				out = append(out, [2]Place{a.place, b.place})
			}
		}
	}
	return out, api.OK
}
