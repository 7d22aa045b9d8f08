package net_test

import (
	"slices"

	"armada/net"
)

// model is a network as the chapter defines it: links are found by comparing all switches with each other.
type model struct {
	spec     net.Spec
	switches int
	homes    int
	linked   [][]bool
}

func modelOf(s net.Spec) *model {
	m := &model{spec: s}
	switch s.Kind {
	case net.Torus:
		m.switches = 1
		for _, side := range s.Sides {
			m.switches *= side
		}
		m.homes = m.switches
	case net.Tree:
		m.homes = modelPower(s.Sides[0], s.Sides[1]-1)
		m.switches = s.Sides[1] * m.homes
	case net.Dragonfly:
		m.switches = s.Sides[0] * (s.Sides[0]*s.Sides[1] + 1)
		m.homes = m.switches
	}
	for x := range m.switches {
		m.linked = append(m.linked, make([]bool, m.switches))
		for y := range m.switches {
			m.linked[x][y] = x != y && m.areLinked(x, y)
		}
	}
	return m
}

func modelPower(k, n int) int {
	if n == 0 {
		return 1
	}
	return k * modelPower(k, n-1)
}

// digits returns the digits of a number to the bases of a list, the last one the lowest.
func digits(x int, bases []int) []int {
	out := make([]int, len(bases))
	for i := len(bases) - 1; i >= 0; i-- {
		out[i] = x % bases[i]
		x /= bases[i]
	}
	return out
}

// number returns the number with some digits.
func number(l, bases []int) int {
	x := 0
	for i := range bases {
		x = x*bases[i] + l[i]
	}
	return x
}

// word returns the level of a switch of a tree, and the digits of its word, the lowest one first.
func (m *model) word(x int) (int, []int) {
	l := digits(x%m.homes, slices.Repeat(m.spec.Sides[:1], m.spec.Sides[1]-1))
	slices.Reverse(l)
	return x / m.homes, l
}

// switchOf returns the switch of a tree with a level and a word.
func (m *model) switchOf(level int, word []int) int {
	l := slices.Clone(word)
	slices.Reverse(l)
	return level*m.homes + number(l, slices.Repeat(m.spec.Sides[:1], m.spec.Sides[1]-1))
}

// areLinked reports whether two different switches are linked.
func (m *model) areLinked(x, y int) bool {
	switch m.spec.Kind {
	case net.Torus:
		return m.linkedInTorus(x, y)
	case net.Tree:
		return m.linkedInTree(x, y) || m.linkedInTree(y, x)
	}
	a := m.spec.Sides[0]
	return x/a == y/a || m.joined(x, y)
}

func (m *model) linkedInTorus(x, y int) bool {
	p, q := digits(x, m.spec.Sides), digits(y, m.spec.Sides)
	different, fits := 0, false
	for dim, side := range m.spec.Sides {
		if p[dim] != q[dim] {
			different++
			by := max(p[dim], q[dim]) - min(p[dim], q[dim])
			fits = by == 1 || by == side-1
		}
	}
	return different == 1 && fits
}

// linkedInTree reports whether a switch is linked with one of the next level.
func (m *model) linkedInTree(x, y int) bool {
	level, p := m.word(x)
	above, q := m.word(y)
	for i := range p {
		if i != level && p[i] != q[i] {
			return false
		}
	}
	return above == level+1
}

// joined reports whether a port of the first switch joins its group with that of the second one, where it is a port of this switch.
func (m *model) joined(x, y int) bool {
	a, h := m.spec.Sides[0], m.spec.Sides[1]
	g := a*h + 1
	for port := range a * h {
		there := (x/a + port + 1) % g
		if x%a == port/h && y/a == there && y%a == (g-2-port)/h {
			return true
		}
	}
	return false
}

// neighbors returns the switches that are linked with a switch, ascending.
func (m *model) neighbors(x int) []int {
	var out []int
	for y, linked := range m.linked[x] {
		if linked {
			out = append(out, y)
		}
	}
	return out
}

// links returns the links, in order.
func (m *model) links() []net.Link {
	var out []net.Link
	for x := range m.switches {
		for y := x + 1; y < m.switches; y++ {
			if m.linked[x][y] {
				out = append(out, net.Link{A: x, B: y})
			}
		}
	}
	return out
}

// distances returns the distances of all switches, which shrink as long as one more link makes a shorter path.
func (m *model) distances() [][]int {
	d := make([][]int, m.switches)
	for x := range d {
		d[x] = slices.Repeat(list(m.switches), m.switches)
		d[x][x] = 0
		for shrinks := true; shrinks; {
			shrinks = false
			for y := range m.switches {
				for _, z := range m.neighbors(y) {
					if d[x][z] > d[x][y]+1 {
						d[x][z] = d[x][y] + 1
						shrinks = true
					}
				}
			}
		}
	}
	return d
}

// route returns a route and its classes.
func (m *model) route(x, goal int) (path, classes []int) {
	switch m.spec.Kind {
	case net.Torus:
		return m.routeInTorus(x, goal)
	case net.Tree:
		return m.routeInTree(x, goal)
	}
	return m.routeInDragonfly(x, goal)
}

func (m *model) routeInTorus(x, goal int) (path, classes []int) {
	path = list(x)
	at, end := digits(x, m.spec.Sides), digits(goal, m.spec.Sides)
	for dim, side := range m.spec.Sides {
		up := 0 // how many channels it takes upwards
		for (at[dim]+up)%side != end[dim] {
			up++
		}
		upwards, class := 2*up <= side, 0
		for at[dim] != end[dim] {
			switch {
			case upwards && at[dim] == side-1:
				at[dim], class = 0, 1
			case upwards:
				at[dim]++
			case at[dim] == 0:
				at[dim], class = side-1, 1
			default:
				at[dim]--
			}
			path = append(path, number(at, m.spec.Sides))
			classes = append(classes, class)
		}
	}
	return path, classes
}

func (m *model) routeInTree(x, goal int) (path, classes []int) {
	path = list(x)
	level, word := m.word(x)
	_, w := m.word(goal)
	for !slices.Equal(word[level:], w[level:]) {
		word[level] = w[level]
		level++
		path = append(path, m.switchOf(level, word))
	}
	for level > 0 {
		level--
		word[level] = w[level]
		path = append(path, m.switchOf(level, word))
	}
	return path, make([]int, len(path)-1)
}

func (m *model) routeInDragonfly(x, goal int) (path, classes []int) {
	a := m.spec.Sides[0]
	if x/a == goal/a {
		path = slices.Compact(list(x, goal))
		return path, make([]int, len(path)-1)
	}
	for exit := x / a * a; exit < x/a*a+a; exit++ {
		for entry := goal / a * a; entry < goal/a*a+a; entry++ {
			if m.linked[exit][entry] {
				path = slices.Compact(list(x, exit, entry, goal))
			}
		}
	}
	for i := range len(path) - 1 {
		class := 1
		if path[i]/a == x/a {
			class = 0
		}
		classes = append(classes, class)
	}
	return path, classes
}

// across returns how many links have exactly one switch in a side.
func (m *model) across(side []bool) int {
	n := 0
	for _, l := range m.links() {
		if side[l.A] != side[l.B] {
			n++
		}
	}
	return n
}

// damage is a network with its damage, which is kept as it was done.
type damage struct {
	*model
	down map[int]bool
	cut  map[net.Link]bool
}

func damageOf(s net.Spec) *damage {
	return &damage{modelOf(s), map[int]bool{}, map[net.Link]bool{}}
}

func (d *damage) alive(x, y int) bool {
	return d.linked[x][y] && !d.down[x] && !d.down[y] && !d.cut[net.Link{A: min(x, y), B: max(x, y)}]
}

// ranks returns for each switch that can be reached from another one the least length of a path.
func (d *damage) ranks(root int) map[int]int {
	out := map[int]int{root: 0}
	for length := range d.switches {
		for x := range d.switches {
			for y := range d.switches {
				if r, ok := out[x]; ok && r == length && d.alive(x, y) {
					if _, ok := out[y]; !ok {
						out[y] = length + 1
					}
				}
			}
		}
	}
	return out
}

// part returns the part of a switch, ascending.
func (d *damage) part(x int) []int {
	var out []int
	reached := d.ranks(x)
	for y := range d.switches {
		if _, ok := reached[y]; ok {
			out = append(out, y)
		}
	}
	return out
}

// climbs returns what says of the channels of a part whether they go up.
func (d *damage) climbs(x int) func(from, to int) bool {
	ranks := d.ranks(d.part(x)[0])
	return func(from, to int) bool {
		return ranks[to] < ranks[from] || ranks[to] == ranks[from] && to < from
	}
}

// detour returns the least one of all the shortest lawful paths between two switches of a part. It has all lawful paths of each length that do not come back.
func (d *damage) detour(x, y int) []int {
	up := d.climbs(x)
	for paths := [][]int{{x}}; ; {
		var best []int
		for _, path := range paths {
			if path[len(path)-1] == y && (best == nil || slices.Compare(path, best) < 0) {
				best = path
			}
		}
		if best != nil {
			return best
		}
		var longer [][]int
		for _, path := range paths {
			for z := range d.switches {
				more := append(slices.Clone(path), z)
				if d.alive(path[len(path)-1], z) && !slices.Contains(path, z) && lawful(more, up) {
					longer = append(longer, more)
				}
			}
		}
		paths = longer
	}
}

// lawful reports whether on a path no channel that goes up comes behind one that goes down.
func lawful(path []int, up func(from, to int) bool) bool {
	fell := false
	for i := range len(path) - 1 {
		if up(path[i], path[i+1]) {
			if fell {
				return false
			}
		} else {
			fell = true
		}
	}
	return true
}
