package comm_test

import (
	"slices"
	"testing"

	"armada/api"
	"armada/comm"
)

// groupOf returns the list of a call, which is not to have an error.
func groupOf(t *testing.T) func(l []int, e api.Errno) []int {
	return func(l []int, e api.Errno) []int {
		t.Helper()
		if e != api.OK {
			t.Fatal(e)
		}
		return l
	}
}

func comparesAs(t *testing.T, what string, a, b []int, want int) {
	t.Helper()
	if n, e := comm.Compare(a, b); n != want || e != api.OK {
		t.Fatalf("%s: %v and %v: %v %v", what, a, b, n, e)
	}
}

// P2.11: what the set operations have to do with one another.
func TestSetsFitTogether(t *testing.T) {
	d, must := dice(4), groupOf(t)
	for range 3000 {
		most := 1 + d.roll(64)
		a, b := d.group(most), d.group(most)
		inter, diff := must(comm.Inter(a, b)), must(comm.Diff(a, b))
		i, j := 0, 0
		for _, p := range a {
			switch {
			case i < len(inter) && inter[i] == p:
				i++
			case j < len(diff) && diff[j] == p:
				j++
			default:
				t.Fatalf("%v and %v: %v and %v", a, b, inter, diff)
			}
		}
		if i < len(inter) || j < len(diff) {
			t.Fatalf("%v and %v: %v and %v", a, b, inter, diff)
		}
		union, other := must(comm.Union(a, b)), must(comm.Union(b, a))
		if n, e := comm.Compare(union, other); n == comm.Unequal || e != api.OK {
			t.Fatalf("%v and %v: %v and %v", a, b, union, other)
		}
		comparesAs(t, "the rest of a union", must(comm.Diff(union, a)), must(comm.Diff(b, a)), comm.Ident)
	}
}

// P2.11: Incl of all ranks in order, and Excl of none, change nothing.
func TestAllAndNoRanks(t *testing.T) {
	d, must := dice(5), groupOf(t)
	for range 1000 {
		a := d.group(64)
		comparesAs(t, "Incl of all", must(comm.Incl(a, upTo(len(a)))), a, comm.Ident)
		comparesAs(t, "Excl of none", must(comm.Excl(a, nil)), a, comm.Ident)
	}
}

// P2.11: Translate there and back.
func TestTranslateBack(t *testing.T) {
	d, must := dice(6), groupOf(t)
	for range 2000 {
		most := 1 + d.roll(64)
		a, b := d.group(most), d.group(most)
		ranks := upTo(len(a))
		there := must(comm.Translate(a, ranks, b))
		back := must(comm.Translate(b, there, a))
		for i, r := range ranks {
			want := r
			if !slices.Contains(b, a[r]) {
				want = none
			}
			if back[i] != want || (there[i] == none) != (want == none) {
				t.Fatalf("%v to %v: %v, and back: %v", a, b, there, back)
			}
		}
	}
}

// P2.12: contexts are different, and an operation on one communicator changes no other one.
func TestOneCommunicatorAtATime(t *testing.T) {
	d, must := dice(7), groupOf(t)
	for range 200 {
		n := 1 + d.roll(10)
		s, _ := comm.New(n)
		for range 40 {
			before := groupsOf(t, s)
			contexts := s.Contexts()
			context := contexts[d.roll(len(contexts))]
			g := must(s.Group(context))
			gone := -1
			switch d.roll(4) {
			case 0:
				s.Dup(context)
			case 1:
				s.Make(context, must(comm.Incl(g, d.group(len(g)))))
			case 2:
				s.Split(context, d.ranks(len(g), 3), d.ranks(len(g), 5))
			case 3:
				if s.Free(context) == api.OK {
					gone = context
				}
			}
			after := groupsOf(t, s)
			for c, was := range before {
				now, there := after[c]
				if there == (c == gone) || there && !slices.Equal(was, now) {
					t.Fatalf("%d: %v, then %v", c, was, now)
				}
			}
		}
	}
}

// groupsOf returns the groups of all communicators by their contexts, which are to be different.
func groupsOf(t *testing.T, s *comm.Space) map[int][]int {
	t.Helper()
	groups := map[int][]int{}
	for _, c := range s.Contexts() {
		g, e := s.Group(c)
		if _, twice := groups[c]; twice || e != api.OK {
			t.Fatalf("context %d: %v", c, e)
		}
		groups[c] = g
	}
	return groups
}

// P2.12: the communicators that Split makes divide the processes whose color is not NoRank, and are sorted.
func TestSplitDivides(t *testing.T) {
	d := dice(8)
	for range 1000 {
		s, _ := comm.New(64)
		g := d.group(64)
		if len(g) == 0 {
			continue
		}
		context, _ := s.Make(0, g)
		colors, keys := make([]int, len(g)), make([]int, len(g))
		for i := range g {
			colors[i], keys[i] = d.roll(9), d.roll(4)-2
			if colors[i] == 8 {
				colors[i] = none
			}
		}
		made, e := s.Split(context, colors, keys)
		if e != api.OK || len(made) != len(g) {
			t.Fatal(made, e)
		}
		total := 0
		for c, h := range groupsOf(t, s) {
			if c <= context {
				continue
			}
			total += len(h)
			for i, p := range h {
				r := slices.Index(g, p)
				if r < 0 || made[r] != c || colors[r] != colors[slices.Index(g, h[0])] {
					t.Fatalf("%v by %v: %d has %v", g, colors, c, h)
				}
				if i == 0 {
					continue
				}
				before := slices.Index(g, h[i-1])
				if keys[before] > keys[r] || keys[before] == keys[r] && before > r {
					t.Fatalf("%v by %v: %v is not sorted", g, keys, h)
				}
			}
		}
		for i, c := range made {
			if (c == none) != (colors[i] == none) {
				t.Fatalf("%v: %v", colors, made)
			}
			if c != none {
				total--
			}
		}
		if total != 0 {
			t.Fatalf("%v: %v", colors, made)
		}
	}
}

// P2.13: Rank and Coords are inverse to each other.
func TestRankOfCoords(t *testing.T) {
	d := dice(9)
	for _, sizes := range allSizes() {
		g := comm.Grid{Sizes: sizes, Wrap: d.bools(len(sizes))}
		for r := range product(sizes) {
			at, e := comm.Coords(g, r)
			back, f := comm.Rank(g, at)
			if e != api.OK || f != api.OK || back != r {
				t.Fatalf("%v: %d is at %v, and there is %d", g, r, at, back)
			}
		}
	}
}

// P2.13: the sizes that Factor returns have the product n.
func TestProductOfFactors(t *testing.T) {
	for n := 1; n <= 64; n++ {
		for dims := 1; dims <= 4; dims++ {
			sizes, e := comm.Factor(n, dims)
			if e != api.OK || len(sizes) != dims || product(sizes) != n {
				t.Errorf("%d and %d: %v %v", n, dims, sizes, e)
			}
		}
	}
}

// P2.13: Shift there and back.
func TestShiftBack(t *testing.T) {
	d := dice(10)
	for range 20000 {
		g := d.grid()
		r, dim := d.roll(product(g.Sizes)), d.roll(len(g.Sizes))
		by := d.roll(13) - 6
		if d.roll(10) == 0 {
			by = list(highest, lowest+1, 1<<62, -1<<62)[d.roll(4)]
		}
		_, s, e := comm.Shift(g, r, dim, by)
		if e != api.OK {
			t.Fatal(e)
		}
		if s == none {
			continue
		}
		back, _, e := comm.Shift(g, s, dim, by)
		_, again, f := comm.Shift(g, s, dim, -by)
		if back != r || again != r || e != api.OK || f != api.OK {
			t.Fatalf("%v along %d by %d: from %d to %d, and back to %d and %d", g, dim, by, r, s, back, again)
		}
	}
}

// P2.13: Sub divides the ranks into parts that are grids of the same sizes.
func TestSubDivides(t *testing.T) {
	d := dice(11)
	for range 3000 {
		g := d.grid()
		n := product(g.Sizes)
		part, parts, ranks, e := comm.Sub(g, d.bools(len(g.Sizes)))
		if e != api.OK || len(parts) != n || len(ranks) != n {
			t.Fatal(parts, ranks, e)
		}
		size := product(part.Sizes)
		seen := map[[2]int]bool{}
		for i, p := range parts {
			if p < 0 || p >= n/size || ranks[i] < 0 || ranks[i] >= size || seen[[2]int{p, ranks[i]}] {
				t.Fatalf("%v: %v %v %v", g, part, parts, ranks)
			}
			seen[[2]int{p, ranks[i]}] = true
		}
	}
}
