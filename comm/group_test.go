package comm_test

import (
	"fmt"
	"math/big"
	"slices"
	"testing"

	"armada/api"
	"armada/comm"
)

// badGroup is a group that is not valid, and the error of Check.
type badGroup struct {
	g []int
	e api.Errno
}

func badGroups() []badGroup {
	return []badGroup{
		{upTo(65), api.ErrMany},
		{times(65, 3), api.ErrMany},
		{times(65, -1), api.ErrMany},
		{times(5000, 70), api.ErrMany},
		{list(-1), api.ErrRank},
		{list(64), api.ErrRank},
		{list(none), api.ErrRank},
		{list(api.AnySource), api.ErrRank},
		{list(lowest), api.ErrRank},
		{list(highest), api.ErrRank},
		{list(64, 64), api.ErrRank},
		{list(5, -1, 5), api.ErrRank},
		{list(1<<32, 0), api.ErrRank},
		{list(3, 3), api.ErrHave},
		{list(0, 1, 0), api.ErrHave},
		{list(63, 1, 2, 63), api.ErrHave},
		{list(5, 5, -1), api.ErrHave},
		{append(upTo(63), 62), api.ErrHave},
	}
}

// P2.1.
func TestCheck(t *testing.T) {
	for _, g := range [][]int{nil, {}, {0}, {63}, {63, 0}, {3, 1, 2}, upTo(64), upTo(63)} {
		if e := comm.Check(g); e != api.OK {
			t.Errorf("%v: %v", g, e)
		}
	}
	for _, x := range badGroups() {
		if e := comm.Check(x.g); e != x.e {
			t.Errorf("%v: %v, not %v", x.g, e, x.e)
		}
	}
}

// oneGroup contains the functions with one group; their other argument is not valid if they have one.
func oneGroup(g []int) map[string]func() ([]int, api.Errno) {
	return map[string]func() ([]int, api.Errno){
		"Incl": func() ([]int, api.Errno) { return comm.Incl(g, list(-5)) },
		"Excl": func() ([]int, api.Errno) { return comm.Excl(g, list(-5)) },
	}
}

func twoGroups(a, b []int) map[string]func() ([]int, api.Errno) {
	return map[string]func() ([]int, api.Errno){
		"Union":     func() ([]int, api.Errno) { return comm.Union(a, b) },
		"Inter":     func() ([]int, api.Errno) { return comm.Inter(a, b) },
		"Diff":      func() ([]int, api.Errno) { return comm.Diff(a, b) },
		"Translate": func() ([]int, api.Errno) { return comm.Translate(a, list(0, -5), b) },
		"Compare": func() ([]int, api.Errno) {
			n, e := comm.Compare(a, b)
			if n != 0 {
				return list(n), e
			}
			return nil, e
		},
	}
}

// P2.1: the errors of groups come before all others, that of the first group before that of the second one.
func TestErrorsOfGroups(t *testing.T) {
	for _, x := range badGroups() {
		for name, f := range oneGroup(x.g) {
			l, e := f()
			isError(t, name, l, e, x.e)
		}
		for name, f := range twoGroups(x.g, list(1, 2)) {
			l, e := f()
			isError(t, name+" with a first group that is not valid", l, e, x.e)
		}
		for name, f := range twoGroups(list(1, 2), x.g) {
			l, e := f()
			isError(t, name+" with a second group that is not valid", l, e, x.e)
		}
		for _, y := range badGroups() {
			for name, f := range twoGroups(x.g, y.g) {
				l, e := f()
				isError(t, name+" with two groups that are not valid", l, e, x.e)
			}
		}
	}
}

// P2.2.
func TestUnionInterDiff(t *testing.T) {
	for _, x := range []struct{ a, b, union, inter, diff []int }{
		{list(3, 1, 2), list(2, 5, 3), list(3, 1, 2, 5), list(3, 2), list(1)},
		{list(2, 5, 3), list(3, 1, 2), list(2, 5, 3, 1), list(2, 3), list(5)},
		{nil, nil, nil, nil, nil},
		{nil, list(4, 0), list(4, 0), nil, nil},
		{list(4, 0), nil, list(4, 0), nil, list(4, 0)},
		{list(9, 0), list(0, 9), list(9, 0), list(9, 0), nil},
		{list(0, 63), list(63, 62, 1), list(0, 63, 62, 1), list(63), list(0)},
		{list(8), list(7, 6, 5), list(8, 7, 6, 5), nil, list(8)},
		{upTo(64), list(63), upTo(64), list(63), upTo(63)},
		{list(63), upTo(64), append(list(63), upTo(63)...), list(63), nil},
	} {
		l, e := comm.Union(x.a, x.b)
		isList(t, fmt.Sprint("Union of ", x.a, x.b), l, e, x.union...)
		l, e = comm.Inter(x.a, x.b)
		isList(t, fmt.Sprint("Inter of ", x.a, x.b), l, e, x.inter...)
		l, e = comm.Diff(x.a, x.b)
		isList(t, fmt.Sprint("Diff of ", x.a, x.b), l, e, x.diff...)
	}
}

// P2.2: the set operations of random groups are what the words say.
func TestSetsOfRandomGroups(t *testing.T) {
	d := dice(1)
	for range 3000 {
		most := 1 + d.roll(64)
		a, b := d.group(most), d.group(most)
		var inter, diff []int
		for _, p := range a {
			if slices.Contains(b, p) {
				inter = append(inter, p)
			} else {
				diff = append(diff, p)
			}
		}
		union := slices.Clone(a)
		for _, p := range b {
			if !slices.Contains(a, p) {
				union = append(union, p)
			}
		}
		l, e := comm.Union(a, b)
		isResult(t, fmt.Sprint("Union of ", a, b), l, e, union, api.OK)
		l, e = comm.Inter(a, b)
		isResult(t, fmt.Sprint("Inter of ", a, b), l, e, inter, api.OK)
		l, e = comm.Diff(a, b)
		isResult(t, fmt.Sprint("Diff of ", a, b), l, e, diff, api.OK)
	}
}

// P2.3.
func TestInclExcl(t *testing.T) {
	g := list(9, 7, 5)
	for _, x := range []struct{ ranks, incl, excl []int }{
		{list(2, 0), list(5, 9), list(7)},
		{list(0, 2), list(9, 5), list(7)},
		{nil, nil, list(9, 7, 5)},
		{list(1), list(7), list(9, 5)},
		{list(0, 1, 2), list(9, 7, 5), nil},
		{list(2, 1, 0), list(5, 7, 9), nil},
	} {
		l, e := comm.Incl(g, x.ranks)
		isList(t, fmt.Sprint("Incl of ", x.ranks), l, e, x.incl...)
		l, e = comm.Excl(g, x.ranks)
		isList(t, fmt.Sprint("Excl of ", x.ranks), l, e, x.excl...)
	}
	l, e := comm.Excl(upTo(64), list(63, 0))
	isList(t, "Excl of all", l, e, upTo(63)[1:]...)
	for _, x := range []struct {
		g, ranks []int
		e        api.Errno
	}{
		{g, list(3), api.ErrRank},
		{g, list(9), api.ErrRank},
		{g, list(-1), api.ErrRank},
		{g, list(none), api.ErrRank},
		{g, list(0, lowest), api.ErrRank},
		{g, list(highest), api.ErrRank},
		{g, list(64), api.ErrRank},
		{g, list(1, 1), api.ErrHave},
		{g, list(0, 1, 0), api.ErrHave},
		{g, list(0, 0, 3), api.ErrHave},
		{g, list(0, 3, 0), api.ErrRank},
		{g, list(3, 3), api.ErrRank},
		{g, list(0, 1, 2, 3), api.ErrRank},
		{g, list(0, 1, 2, 2), api.ErrHave},
		{g, times(5000, 1), api.ErrHave},
		{nil, list(0), api.ErrRank},
		{upTo(64), list(64), api.ErrRank},
		{upTo(64), append(upTo(64), 0), api.ErrHave},
	} {
		l, e := comm.Incl(x.g, x.ranks)
		isError(t, fmt.Sprint("Incl of ", x.g, x.ranks), l, e, x.e)
		l, e = comm.Excl(x.g, x.ranks)
		isError(t, fmt.Sprint("Excl of ", x.g, x.ranks), l, e, x.e)
	}
}

// P2.3: Incl and Excl of random groups are what the words say.
func TestRanksOfRandomGroups(t *testing.T) {
	d := dice(2)
	for range 5000 {
		g := d.group(1 + d.roll(20))
		ranks := d.group(len(g) + 1)
		if d.roll(4) == 0 {
			ranks = d.ranks(d.roll(5), len(g))
		}
		var incl, excl []int
		f := api.OK
		for i, r := range ranks {
			if r < 0 || r >= len(g) {
				f = api.ErrRank
			} else if slices.Contains(ranks[:i], r) {
				f = api.ErrHave
			}
			if f != api.OK {
				break
			}
			incl = append(incl, g[r])
		}
		for r, p := range g {
			if !slices.Contains(ranks, r) {
				excl = append(excl, p)
			}
		}
		if f != api.OK {
			incl, excl = nil, nil
		}
		l, e := comm.Incl(g, ranks)
		isResult(t, fmt.Sprint("Incl of ", g, ranks), l, e, incl, f)
		l, e = comm.Excl(g, ranks)
		isResult(t, fmt.Sprint("Excl of ", g, ranks), l, e, excl, f)
	}
}

// P2.4.
func TestRanges(t *testing.T) {
	for _, x := range []struct {
		n    int
		l    [][3]int
		want []int
	}{
		{8, [][3]int{{1, 6, 2}, {7, 6, -1}}, list(1, 3, 5, 7, 6)},
		{8, [][3]int{{3, 2, 1}}, nil},
		{8, [][3]int{{2, 3, -1}}, nil},
		{8, nil, nil},
		{0, nil, nil},
		{0, [][3]int{{0, -1, 1}, {0, 1, -1}}, nil},
		{1, [][3]int{{0, 0, 1}}, list(0)},
		{1, [][3]int{{0, 0, -1}}, list(0)},
		{8, [][3]int{{7, 0, -3}}, list(7, 4, 1)},
		{8, [][3]int{{7, 1, -3}, {0, 3, 3}}, list(7, 4, 1, 0, 3)},
		{8, [][3]int{{6, 8, 3}}, list(6)},
		{8, [][3]int{{1, -1, -3}}, list(1)},
		{64, [][3]int{{0, 63, 1}}, upTo(64)},
		{64, [][3]int{{63, highest, highest}}, list(63)},
		{64, [][3]int{{63, lowest + 64, lowest}}, list(63)},
		{64, [][3]int{{63, highest, highest - 62}}, list(63)},
		{64, [][3]int{{0, lowest + 1, lowest}}, list(0)},
		{64, [][3]int{{5, 5, highest}, {6, 6, lowest}}, list(5, 6)},
		{64, [][3]int{{highest, lowest, 1}, {lowest, highest, -1}}, nil},
		{64, [][3]int{{lowest, highest, lowest}, {highest, lowest, highest}}, nil},
	} {
		l, e := comm.Ranges(x.n, x.l)
		isList(t, fmt.Sprint("Ranges of ", x.n, x.l), l, e, x.want...)
	}
}

// P2.4.
func TestErrorsOfRanges(t *testing.T) {
	for _, x := range []struct {
		n int
		l [][3]int
		e api.Errno
	}{
		{-1, nil, api.ErrRange},
		{65, nil, api.ErrRange},
		{lowest, [][3]int{{0, 0, 0}}, api.ErrRange},
		{highest, [][3]int{{0, 0, 0}}, api.ErrRange},
		{65, [][3]int{{-1, -1, 1}}, api.ErrRange},
		{8, [][3]int{{1, 9, 4}}, api.ErrRank},
		{8, [][3]int{{0, 8, 1}}, api.ErrRank},
		{8, [][3]int{{8, 8, 1}}, api.ErrRank},
		{8, [][3]int{{1, -1, -1}}, api.ErrRank},
		{8, [][3]int{{-1, 3, 1}}, api.ErrRank},
		{8, [][3]int{{-4, 4, 4}}, api.ErrRank},
		{8, [][3]int{{12, 4, -4}}, api.ErrRank},
		{0, [][3]int{{0, 0, 1}}, api.ErrRank},
		{8, [][3]int{{0, 0, 0}}, api.ErrArg},
		{8, [][3]int{{99, 0, 0}}, api.ErrArg},
		{8, [][3]int{{3, 2, 0}}, api.ErrArg},
		{8, [][3]int{{0, 3, 1}, {0, 0, 0}}, api.ErrArg},
		{8, [][3]int{{0, 8, 1}, {0, 0, 0}}, api.ErrRank},
		{8, [][3]int{{1, 2, 1}, {2, 3, 1}, {0, 0, 0}}, api.ErrHave},
		{8, [][3]int{{1, 2, 1}, {2, 9, 7}}, api.ErrHave},
		{8, [][3]int{{1, 2, 1}, {9, 2, -7}}, api.ErrRank},
		{8, [][3]int{{3, 3, 1}, {3, 3, -1}}, api.ErrHave},
		{8, [][3]int{{3, 3, 1}, {4, 4, 1}, {5, 3, -1}}, api.ErrHave},
		{64, [][3]int{{0, highest, highest}}, api.ErrRank},
		{64, [][3]int{{63, lowest, lowest}}, api.ErrRank},
		{64, [][3]int{{63, lowest + 63, lowest}}, api.ErrRank},
		{64, [][3]int{{1, highest, highest - 1}}, api.ErrRank},
		{64, [][3]int{{0, lowest, lowest}}, api.ErrRank},
		{64, [][3]int{{63, lowest, lowest + 1}}, api.ErrRank},
		{64, [][3]int{{lowest, highest, highest}}, api.ErrRank},
		{64, [][3]int{{highest, lowest, lowest}}, api.ErrRank},
		{64, [][3]int{{0, highest, 1 << 62}}, api.ErrRank},
		{64, [][3]int{{0, 1 << 32, 1 << 32}}, api.ErrRank},
	} {
		l, e := comm.Ranges(x.n, x.l)
		isError(t, fmt.Sprint("Ranges of ", x.n, x.l), l, e, x.e)
	}
}

// rangesModel is Ranges with numbers that never wrap around.
func rangesModel(n int, l [][3]int) ([]int, api.Errno) {
	var out []int
	for _, r := range l {
		if r[2] == 0 {
			return nil, api.ErrArg
		}
		x, last, stride := big.NewInt(int64(r[0])), big.NewInt(int64(r[1])), big.NewInt(int64(r[2]))
		for x.Cmp(last) != stride.Sign() {
			if x.Sign() < 0 || x.Cmp(big.NewInt(int64(n))) >= 0 {
				return nil, api.ErrRank
			}
			if slices.Contains(out, int(x.Int64())) {
				return nil, api.ErrHave
			}
			out = append(out, int(x.Int64()))
			x.Add(x, stride)
		}
	}
	return out, api.OK
}

// P2.4: random ranges are what the words say.
func TestRandomRanges(t *testing.T) {
	d := dice(3)
	odd := list(lowest, lowest+1, lowest+63, -1<<62, -1, 0, 1, 1<<62, highest-63, highest-1, highest)
	number := func(from, to int) int {
		if d.roll(20) == 0 {
			return odd[d.roll(len(odd))]
		}
		return from + d.roll(to-from+1)
	}
	for range 20000 {
		n := 1 + d.roll(64)
		l := make([][3]int, d.roll(4))
		for i := range l {
			l[i] = [3]int{number(0, n-1), number(-3, n+3), number(-30, 30)}
		}
		want, f := rangesModel(n, l)
		got, e := comm.Ranges(n, l)
		if e != f || !slices.Equal(got, want) {
			t.Fatalf("%d %v: %v %v, not %v %v", n, l, got, e, want, f)
		}
	}
}

// P2.5.
func TestTranslate(t *testing.T) {
	for _, x := range []struct{ a, ranks, b, want []int }{
		{list(4, 5, 6), list(0, 2, none), list(6, 5), list(none, 0, none)},
		{list(4, 5, 6), list(1, 1, 2, 1), list(6, 5), list(1, 1, 0, 1)},
		{list(4, 5, 6), nil, list(6, 5), nil},
		{nil, nil, nil, nil},
		{nil, list(none, none), list(1), list(none, none)},
		{list(1), list(0, none), nil, list(none, none)},
		{list(7, 0), list(0, 1), list(0, 7), list(1, 0)},
		{list(63), list(0), upTo(64), list(63)},
		{list(2), times(200, 0), list(1, 2), times(200, 1)},
	} {
		l, e := comm.Translate(x.a, x.ranks, x.b)
		isList(t, fmt.Sprint("Translate of ", x.a, x.ranks, x.b), l, e, x.want...)
	}
	for _, r := range list(3, -1, -3, 64, 65, lowest, highest) {
		for _, ranks := range [][]int{{r}, {0, none, r}, {r, 0}} {
			l, e := comm.Translate(list(4, 5, 6), ranks, list(6, 5))
			isError(t, "Translate", l, e, api.ErrRank)
		}
	}
	l, e := comm.Translate(nil, list(0), nil)
	isError(t, "Translate from the empty group", l, e, api.ErrRank)
}

// P2.5.
func TestCompare(t *testing.T) {
	for _, x := range []struct {
		a, b []int
		want int
	}{
		{list(1, 2), list(2, 1), comm.Similar},
		{list(1), list(1, 2), comm.Unequal},
		{list(1, 2), list(1), comm.Unequal},
		{list(1, 2), list(1, 2), comm.Ident},
		{nil, []int{}, comm.Ident},
		{nil, list(0), comm.Unequal},
		{list(0), nil, comm.Unequal},
		{list(1, 2), list(1, 3), comm.Unequal},
		{list(1, 2), list(3, 4), comm.Unequal},
		{list(0, 1, 2), list(1, 2, 0), comm.Similar},
		{list(5, 63), list(63, 5), comm.Similar},
		{list(5, 63), list(5, 62), comm.Unequal},
		{upTo(64), upTo(64), comm.Ident},
		{upTo(64), upTo(63), comm.Unequal},
		{append(upTo(63)[1:], 0, 63), upTo(64), comm.Similar},
	} {
		n, e := comm.Compare(x.a, x.b)
		isNumber(t, fmt.Sprint("Compare of ", x.a, x.b), n, e, x.want, api.OK)
	}
	if comm.Ident != 1 || comm.Similar != 2 || comm.Unequal != 3 {
		t.Error("constants")
	}
}
