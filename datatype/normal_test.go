package datatype_test

import (
	"reflect"
	"testing"

	"armada/api"
	"armada/datatype"
)

// P1.6: normal types.
func TestNormal(t *testing.T) {
	for _, x := range []struct{ t, want string }{
		{"vector(2, 2, 3, half)", "resized([0, 10], struct([2, 2], [0, 6], half, half))"},
		{"byte", "resized([0, 1], struct([1], [0], byte))"},
		{"real", "resized([0, 8], struct([1], [0], real))"},
		{"contig(3, contig(2, word))", "resized([0, 24], struct([6], [0], word))"},
		{"contig(4096, byte)", "resized([0, 4096], struct([4096], [0], byte))"},
		{"struct([1, 1, 1], [0, 4, 5], word, byte, byte)", "resized([0, 6], struct([1, 2], [0, 4], word, byte))"},
		{"struct([1, 1], [0, 8], long, real)", "resized([0, 16], struct([1, 1], [0, 8], long, real))"},
		{"indexed([1, 1], [1, 0], byte)", "resized([0, 2], struct([1, 1], [1, 0], byte, byte))"},
		{"indexed([1, 1], [0, 1], byte)", "resized([0, 2], struct([2], [0], byte))"},
		{"contig(2, resized([0, 0], half))", "resized([0, 0], struct([1, 1], [0, 0], half, half))"},
		{"vector(2, 2, 1, byte)", "resized([0, 3], struct([2, 2], [0, 1], byte, byte))"},
		{"resized([-4, 16], word)", "resized([-4, 16], struct([1], [0], word))"},
		{"resized([-4, 16], struct([1], [-9], word))", "resized([-4, 16], struct([1], [-9], word))"},
		{"struct([0, 2], [5, 7], long, resized([-1, 2], half))", "resized([6, 4], struct([2], [7], half))"},
	} {
		y := read(t, x.t)
		n, e := datatype.Normal(y)
		if s, f := datatype.Print(n); e != api.OK || f != api.OK || s != x.want {
			t.Errorf("%s: %s %v %v", x.t, s, e, f)
		}
		if again, e := datatype.Normal(n); e != api.OK || !reflect.DeepEqual(again, n) {
			t.Errorf("%s: the normal type of the normal type differs", x.t)
		}
	}
}

// P1.6: Normal returns the error of Check; a type of any depth has a normal type.
func TestNormalErrors(t *testing.T) {
	for _, x := range invalid() {
		if n, e := datatype.Normal(x.t); e != x.want || !reflect.DeepEqual(n, api.Type{}) {
			t.Errorf("%s: %+v %v", x.name, n, e)
		}
	}
	if n, e := datatype.Normal(nested(8)); e != api.OK || must(datatype.Print(n)) != "resized([0, 1], struct([1], [0], byte))" {
		t.Errorf("%+v %v", n, e)
	}
}

// P1.6: types that are the same, and types that are not.
func TestSame(t *testing.T) {
	for _, x := range []struct {
		t, u string
		want bool
	}{
		{"word", "word", true},
		{"word", "contig(1, word)", true},
		{"word", "contig(4, byte)", false},
		{"long", "real", false},
		{"word", "resized([0, 4], word)", true},
		{"word", "resized([0, 5], word)", false},
		{"word", "resized([-1, 5], word)", false},
		{"word", "resized([-1, 4], word)", false},
		{"contig(2, byte)", "indexed([1, 1], [1, 0], byte)", false},
		{"contig(2, byte)", "contig(3, byte)", false},
		{"contig(3, byte)", "contig(2, byte)", false},
		{"resized([0, 9], contig(2, byte))", "resized([0, 9], contig(3, byte))", false},
		{"resized([0, 9], struct([1], [1], byte))", "resized([0, 9], byte)", false},
		{"struct([1, 1], [0, 2], half, half)", "contig(2, half)", true},
		{"struct([1, 0], [0, 2], half, half)", "half", true},
		{"subarray([3], [1], [1], half)", "resized([0, 6], struct([1], [2], half))", true},
	} {
		a, b := read(t, x.t), read(t, x.u)
		if datatype.Same(a, b) != x.want || datatype.Same(b, a) != x.want {
			t.Errorf("%s and %s", x.t, x.u)
		}
	}
	for _, x := range invalid() {
		if datatype.Same(x.t, x.t) || datatype.Same(octet, x.t) || datatype.Same(x.t, octet) {
			t.Errorf("%s: a type that is not valid is the same as another one", x.name)
		}
	}
}

// P1.6: the same answer as the model's.
func TestSameAgainstModel(t *testing.T) {
	d := dice(8)
	same := 0
	for range 20000 {
		x, y := d.tree(3), d.tree(3)
		m, e := modelOf(x)
		n, f := modelOf(y)
		want := e == api.OK && f == api.OK && reflect.DeepEqual(m, n)
		if datatype.Same(x, y) != want {
			t.Fatalf("%+v and %+v: %v", x, y, !want)
		}
		if want {
			same++
		}
	}
	if same < 100 {
		t.Errorf("only %d pairs are the same", same)
	}
}
