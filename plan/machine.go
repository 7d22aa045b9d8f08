package plan

import (
	"slices"

	"armada/api"
	"armada/net"
)

// Check checks a machine.
func Check(m Machine, procs int) api.Errno {
	_, hosts, e := net.Size(m.Net)
	switch {
	case e != api.OK:
		return e
	case !m.prices().within(parts{MaxPrice, MaxPrice, MaxPrice, MaxPrice}):
		return api.ErrRange
	case len(m.Hosts) != procs:
		return api.ErrShape
	}
	for i, host := range m.Hosts {
		switch {
		case host < 0 || host >= hosts:
			return api.ErrRange
		case slices.Contains(m.Hosts[:i], host):
			return api.ErrHave
		}
	}
	return api.OK
}

// Spread returns hosts for processes.
func Spread(s net.Spec, procs int) ([]int, api.Errno) {
	_, hosts, e := net.Size(s)
	switch {
	case e != api.OK:
		return nil, e
	case procs < 0 || procs > hosts:
		return nil, api.ErrRange
	}
	homes, _ := net.Snake(s)
	out := make([]int, procs)
	for i := range out {
		out[i] = homes[i%len(homes)]*s.Hosts + i/len(homes)
	}
	return out, api.OK
}

// layout is a valid machine, of which it is known where the processes are.
type layout struct {
	Machine
	homes []int         // of the processes
	far   map[int][]int // for the homes that were asked for, the distances of all switches
}

func layoutOf(m Machine) layout {
	l := layout{m, make([]int, len(m.Hosts)), map[int][]int{}}
	for rank, host := range m.Hosts {
		l.homes[rank], _ = net.Home(m.Net, host)
	}
	return l
}

// path returns the route of messages from a process to another one.
func (l layout) path(from, to int) []int {
	path, _ := net.Route(l.Net, l.homes[from], l.homes[to])
	return path
}

// distance returns the distance of the homes of two processes.
func (l layout) distance(pair [2]int) int {
	x, y := l.homes[pair[0]], l.homes[pair[1]]
	if l.far[x] == nil {
		l.far[x] = distances(l.Net, x)
	}
	return l.far[x][y]
}

// distances returns the distances of all switches from one of them. A bound asks for those of all pairs of processes: net.Distance would search once for each pair.
func distances(s net.Spec, from int) []int {
	switches, _, _ := net.Size(s)
	out := slices.Repeat([]int{switches}, switches) // more than any distance
	out[from] = 0
	for queue := []int{from}; len(queue) > 0; queue = queue[1:] {
		near, _ := net.Neighbors(s, queue[0])
		for _, y := range near {
			if out[y] == switches {
				out[y] = out[queue[0]] + 1
				queue = append(queue, y)
			}
		}
	}
	return out
}

// least returns the least distance of the homes of two different processes, or 0 if there is only one process.
func (l layout) least() int {
	_, n := greatest(couples(len(l.homes)), func(pair [2]int) int { return -l.distance(pair) })
	return -n
}
