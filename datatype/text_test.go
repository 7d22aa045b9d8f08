package datatype_test

import (
	"reflect"
	"strings"
	"testing"

	"armada/api"
	"armada/datatype"
)

// P1.7: the strings of types, both ways.
func TestStrings(t *testing.T) {
	for _, x := range []struct {
		t    api.Type
		want string
	}{
		{octet, "byte"}, {half, "half"}, {word, "word"}, {long, "long"}, {real8, "real"},
		{contig(12, word), "contig(12, word)"},
		{vector(4096, 1, -7, octet), "vector(4096, 1, -7, byte)"},
		{vector(1, 2, 0, contig(3, half)), "vector(1, 2, 0, contig(3, half))"},
		{indexed(list(1), list(-5), long), "indexed([1], [-5], long)"},
		{indexed(list(0, 10), list(2, 0), real8), "indexed([0, 10], [2, 0], real)"},
		{structure(list(2), list(0), octet), "struct([2], [0], byte)"},
		{structure(list(0, 2), list(-5, 1048560), real8, octet), "struct([0, 2], [-5, 1048560], real, byte)"},
		{structure(list(1, 1), list(0, 9), structure(list(1, 1), list(0, 9), half, octet), word), "struct([1, 1], [0, 9], struct([1, 1], [0, 9], half, byte), word)"},
		{resized(-4, 16, word), "resized([-4, 16], word)"},
		{subarray(list(3), list(2), list(1), octet), "subarray([3], [2], [1], byte)"},
		{subarray(list(4, 4), list(1, 2), list(3, 2), resized(0, 9, half)), "subarray([4, 4], [1, 2], [3, 2], resized([0, 9], half))"},
		{nested(8), "contig(1, contig(1, contig(1, contig(1, contig(1, contig(1, contig(1, byte)))))))"},
	} {
		if s, e := datatype.Print(x.t); e != api.OK || s != x.want {
			t.Errorf("Print: %q %v, not %q", s, e, x.want)
		}
		if y, e := datatype.Read(x.want); e != api.OK || !reflect.DeepEqual(y, x.t) {
			t.Errorf("Read of %q: %+v %v", x.want, y, e)
		}
	}
}

// P1.7: Print returns the error of Check.
func TestPrintErrors(t *testing.T) {
	for _, x := range invalid() {
		if s, e := datatype.Print(x.t); e != x.want || s != "" {
			t.Errorf("%s: %q %v", x.name, s, e)
		}
	}
}

// sized returns a type whose string has n bytes, if n is large enough.
func sized(n int) api.Type {
	const element = len("1, 0, contig(1, byte), ")
	count := (n - len("struct([], [], )")) / element
	x := structure(times(count, 1), times(count, 0), times(count, contig(1, octet))...)
	left := n - len(must(datatype.Print(x)))
	for i := 0; left > 0; i++ {
		more := min(left, 6) // a place of one digit becomes one of up to seven
		x.Places[i] = []int{0, 10, 100, 1000, 10000, 100000, 1000000}[more]
		left -= more
	}
	return x
}

func must(s string, e api.Errno) string {
	if e != api.OK {
		panic(e)
	}
	return s
}

// P1.7: a text has at most 65536 bytes.
func TestLongStrings(t *testing.T) {
	for _, n := range []int{60000, 65535, 65536} {
		x := sized(n)
		s, e := datatype.Print(x)
		if e != api.OK || len(s) != n {
			t.Fatalf("%d bytes: %d %v", n, len(s), e)
		}
		if y, e := datatype.Read(s); e != api.OK || !reflect.DeepEqual(x, y) {
			t.Errorf("%d bytes: %v", n, e)
		}
	}
	x := sized(65536)
	x.Blocks[0] = 10
	if s, e := datatype.Print(x); e != api.ErrLong || s != "" {
		t.Errorf("65537 bytes: %v", e)
	}
	far := structure(times(4096, 0), times(4096, -1000000), times(4096, sample(api.Subarray))...)
	far.Blocks[4095] = 1
	if s, e := datatype.Print(far); e != api.ErrLong || s != "" {
		t.Errorf("more bytes: %v", e)
	}
	far.Blocks[4095] = 0
	if _, e := datatype.Print(far); e != api.ErrRange {
		t.Errorf("more bytes, and not valid: %v", e)
	}
	for _, s := range []string{strings.Repeat("x", 65537), "byte" + strings.Repeat(" ", 65533), strings.Repeat("contig(1, ", 10000)} {
		if y, e := datatype.Read(s); e != api.ErrLong || !reflect.DeepEqual(y, api.Type{}) {
			t.Errorf("65537 bytes: %v", e)
		}
		if _, e := datatype.Read(s[:65536]); e != api.ErrForm {
			t.Errorf("65536 bytes: %v", e)
		}
	}
}

// P1.7: what is not the string of a valid type.
func TestReadErrors(t *testing.T) {
	for _, s := range []string{
		"", " ", "b", "bytes", "Byte", "byte ", " byte", "byte\n", "byte\x00", "byte()", "byte(1)", "bytehalf", "byte, half", "(byte)", "contig", "contig(", "contig()", "contig(2)",
		"int", "wordword", "\xffbyte", "bytе", "contig[2, byte]",
		"contig(02, byte)", "contig(+2, byte)", "contig(2,byte)", "contig(2,  byte)", "contig( 2, byte)", "contig(2, byte )", "contig (2, byte)", "contig(2 , byte)", "contig(2, byte", "contig(2, byte))", "contig(2, byte)byte", "contig(2, byte) ",
		"contig(2, byte, byte)", "contig(2, )", "contig(, byte)", "contig(byte)", "contig(2.0, byte)", "contig(0x2, byte)", "contig(2_0, byte)", "contig(2e1, byte)", "contig([2], byte)", "contig(-, byte)", "contig(--2, byte)", "contig(2-, byte)", "contig(1-1, byte)", "contig(٢, byte)",
		"contig(0, byte)", "contig(-1, byte)", "contig(4097, byte)", "contig(9999999999999, byte)", "contig(18446744073709551618, byte)", "contig(4294967298, byte)", "contig(2, contig(0, byte))", "contig(00, byte)",
		"vector(1, 1, -0, byte)", "vector(1, 1, 00, byte)", "vector(1, 1, byte)", "vector(1, 1, 1, 1, byte)", "vector(1, 1, 1048577, byte)", "vector(65, 64, 0, byte)", "vector(1, 1, -01, byte)",
		"indexed([], [], byte)", "indexed([1], [], byte)", "indexed([1], [1, 2], byte)", "indexed([0], [1], byte)", "indexed([1,1], [1, 2], byte)", "indexed([1, ], [1], byte)", "indexed([ 1], [1], byte)", "indexed([1 ], [1], byte)", "indexed(1, 1, byte)", "indexed([1], [1], byte, byte)", "indexed([1], [1])", "indexed([1] , [1], byte)", "indexed([1], [1]), byte", "indexed([[1]], [1], byte)", "indexed([1, [1], byte)", "indexed((1), (1), byte)",
		"struct([1], [0])", "struct([1], [0], )", "struct([1], [0], byte, )", "struct([1], [0], byte, byte)", "struct([1, 1], [0, 0], byte)", "struct([1, 1], [0, 0], byte,byte)", "struct([0], [0], byte)", "struct([], [], byte)", "struct([1], [1048576], byte)", "struct([1, 1], [0, 0], byte; half)",
		"resized([0, -1], byte)", "resized([0], byte)", "resized([0, 1, 1], byte)", "resized(0, 1, byte)", "resized([0, 1], byte, byte)", "resized([0, 1048577], byte)",
		"subarray([1], [1], [0], byte, byte)", "subarray([1], [1], byte)", "subarray([1], [2], [0], byte)", "subarray([1], [1], [1], byte)", "subarray([1, 1], [1], [0], byte)", "subarray([1, 1, 1, 1, 1], [1, 1, 1, 1, 1], [0, 0, 0, 0, 0], byte)",
		"contig(1, contig(1, contig(1, contig(1, contig(1, contig(1, contig(1, contig(1, byte))))))))",
	} {
		if x, e := datatype.Read(s); e != api.ErrForm || !reflect.DeepEqual(x, api.Type{}) {
			t.Errorf("Read(%q): %+v %v", s, x, e)
		}
	}
}

// P1.11: each valid type is read from its string, and different types have different strings.
func TestStringsOfAll(t *testing.T) {
	d := dice(6)
	of := map[string]api.Type{}
	for range 10000 {
		x := d.valid()
		s, e := datatype.Print(x)
		if e != api.OK {
			t.Fatalf("%+v: %v", x, e)
		}
		if y, e := datatype.Read(s); e != api.OK || !reflect.DeepEqual(x, y) {
			t.Fatalf("%q: %+v %v", s, y, e)
		}
		if y, have := of[s]; have && !reflect.DeepEqual(x, y) {
			t.Fatalf("%q is the string of %+v and of %+v", s, x, y)
		}
		of[s] = x
	}
}

// P1.7 and P1.11: of strings that differ a little from that of a type, those are read that are printed again.
func TestReadSpoiled(t *testing.T) {
	d, letters, good := dice(7), "0123456789-,, []()abcdefghilnorstuvwxyz", 0
	for range 30000 {
		b := []byte(must(datatype.Print(d.valid())))
		for range 1 + d.roll(2) {
			i := d.roll(len(b) + 1)
			switch c := letters[d.roll(len(letters))]; {
			case i == len(b) || d.roll(3) == 0:
				b = append(b[:i:i], append([]byte{c}, b[i:]...)...)
			case d.roll(2) == 0 && len(b) > 1:
				b = append(b[:i:i], b[i+1:]...)
			default:
				b[i] = c
			}
		}
		x, e := datatype.Read(string(b))
		if e == api.OK {
			good++
			if s, e := datatype.Print(x); e != api.OK || s != string(b) {
				t.Fatalf("%q is read, but printed as %q", b, s)
			}
		} else if e != api.ErrForm {
			t.Fatalf("%q: %v", b, e)
		}
	}
	if good < 100 {
		t.Errorf("only %d strings were read", good)
	}
}

// P1.7: what Read returns is new each time.
func TestReadIsNew(t *testing.T) {
	x, y := read(t, "indexed([1], [2], byte)"), read(t, "indexed([1], [2], byte)")
	x.Blocks[0], x.Places[0], x.Of[0].Kind = 5, 6, api.Word
	if s := must(datatype.Print(y)); s != "indexed([1], [2], byte)" {
		t.Error(s)
	}
}
