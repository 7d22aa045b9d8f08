package sum_test

import (
	"bytes"
	"fmt"
	"slices"
	"testing"

	"armada/api"
	"armada/sum"
)

// decodes fails unless Decode returns what it should for some bytes.
func decodes(t *testing.T, b []byte) {
	t.Helper()
	want := api.OK
	if len(b) > 282 {
		want = api.ErrLong
	} else if !isSum(b) {
		want = api.ErrForm
	}
	a, e := sum.Decode(b)
	if e != want || (a != nil) != (want == api.OK) {
		t.Errorf("Decode of %v: %v %v, not %v", b, a, e, want)
		return
	}
	if e == api.OK && !bytes.Equal(encoded(t, a), b) {
		t.Errorf("Decode of %v: Encode gives %v", b, encoded(t, a))
	}
}

// P3.6: the chapter's examples, and what is near to them.
func TestDecodeExamples(t *testing.T) {
	for _, x := range []struct {
		b     []byte
		e     api.Errno
		value uint64
	}{
		{[]byte{0, 0, 0}, api.ErrForm, 0},
		{[]byte{8, 1}, api.ErrForm, 0},
		{[]byte{17, 0}, api.OK, nan},
		{[]byte{1, 0}, api.ErrForm, 0},
		{nil, api.ErrForm, 0},
		{[]byte{}, api.ErrForm, 0},
		{[]byte{0}, api.ErrForm, 0},
		{[]byte{16}, api.ErrForm, 0},
		{[]byte{0, 0}, api.OK, 0},
		{[]byte{0, 1}, api.ErrForm, 0},
		{[]byte{0, 0, 1}, api.ErrForm, 0},
		{[]byte{8, 0}, api.OK, minusZero},
		{[]byte{8, 0, 1}, api.ErrForm, 0},
		{[]byte{8, 0, 0}, api.ErrForm, 0},
		{[]byte{9, 0}, api.ErrForm, 0},
		{[]byte{10, 0}, api.ErrForm, 0},
		{[]byte{12, 0}, api.ErrForm, 0},
		{[]byte{2, 0}, api.ErrForm, 0},
		{[]byte{4, 0}, api.ErrForm, 0},
		{[]byte{16, 0}, api.OK, 0},
		{[]byte{16, 1}, api.ErrForm, 0},
		{[]byte{16, 2, 1}, api.ErrForm, 0},
		{[]byte{16, 255, 1}, api.ErrForm, 0},
		{[]byte{16, 0, 0}, api.ErrForm, 0},
		{[]byte{16, 0, 0, 1}, api.ErrForm, 0},
		{[]byte{16, 1, 0, 1}, api.ErrForm, 0},
		{[]byte{16, 0, 1}, api.OK, least},
		{[]byte{16, 1, 1}, api.OK, opposite(least)},
		{[]byte{16, 1, 1, 0}, api.OK, opposite(256)},
		{[]byte{18, 0}, api.OK, plusInf},
		{[]byte{20, 0}, api.OK, minusInf},
		{[]byte{20, 0, 7}, api.OK, minusInf},
		{[]byte{22, 1, 7}, api.OK, nan},
		{[]byte{24, 0}, api.ErrForm, 0},
		{[]byte{24, 0, 1}, api.ErrForm, 0},
		{[]byte{32, 0}, api.ErrForm, 0},
		{[]byte{64, 0}, api.ErrForm, 0},
		{[]byte{128, 0}, api.ErrForm, 0},
		{[]byte{144, 0, 1}, api.ErrForm, 0},
		{largest(0), api.OK, plusInf},
		{largest(1), api.OK, minusInf},
		{largest(2), api.ErrForm, 0},
		{append(largest(0), 255), api.ErrLong, 0},
		{append(largest(2), 255), api.ErrLong, 0},
		{append([]byte{16, 0, 0}, largest(0)[2:]...), api.ErrLong, 0},
		{append([]byte{16, 0, 0}, largest(0)[3:]...), api.ErrForm, 0},
		{make([]byte, 282), api.ErrForm, 0},
		{make([]byte, 283), api.ErrLong, 0},
		{make([]byte, 1<<20), api.ErrLong, 0},
	} {
		a, e := sum.Decode(x.b)
		if e != x.e || (a == nil) != (e != api.OK) {
			t.Errorf("Decode of %v: %v %v, not %v", x.b, a, e, x.e)
		}
		if e == api.OK {
			hasValue(t, fmt.Sprint("Decode of ", x.b), a, x.value)
		}
		decodes(t, x.b)
	}
}

// P3.6: all short bytes, and many longer ones.
func TestDecode(t *testing.T) {
	count := 0
	for x := range 256 {
		decodes(t, []byte{byte(x)})
		for y := range 256 {
			decodes(t, []byte{byte(x), byte(y)})
			for _, z := range []byte{0, 1, 128, 255} {
				decodes(t, []byte{byte(x), byte(y), z})
				decodes(t, []byte{byte(x), byte(y), z, 0})
				decodes(t, append([]byte{byte(x), byte(y), z}, make([]byte, 279)...))
			}
			if isSum([]byte{byte(x), byte(y)}) {
				count++
			}
		}
	}
	if count != 10 {
		t.Error(count, "sums of two bytes")
	}
	for n := 2; n <= 290; n++ {
		for first := range byte(34) {
			b := slices.Repeat([]byte{first | 1}, n)
			b[0], b[1] = first, 1
			decodes(t, b)
			b[1] = 0
			decodes(t, b)
			if n > 2 {
				b[2] = 0
				decodes(t, b)
			}
		}
	}
}

// P3.6, P3.9: Decode of Encode is the same sum, which goes on like the first one.
func TestDecodeOfEncode(t *testing.T) {
	d := dice(10)
	for range 3000 {
		a := sumOf(t, d.numbers(8, d.number)...)
		b := decoded(t, encoded(t, a))
		isSame(t, "Decode of Encode", a, b)
		if a.Value() != b.Value() {
			t.Fatalf("the values are %x and %x", a.Value(), b.Value())
		}
		number, part := d.number(), sumOf(t, d.numbers(3, d.number)...)
		add(t, a, number)
		add(t, b, number)
		merge(t, a, part)
		merge(t, b, decoded(t, encoded(t, part)))
		isSame(t, "sums that go on", a, b)
	}
}

// P3.6: sums of all lengths, of which the value follows from the highest bits.
func TestLengths(t *testing.T) {
	for n := 1; n <= 280; n++ {
		for bit := range 8 {
			b := append([]byte{16, 0, 1 << bit}, make([]byte, n-1)...)
			want, at := uint64(plusInf), 8*(n-1)+bit-1074 // the value is 2^at
			if at < 1024 {
				want = power(at)
			}
			hasValue(t, fmt.Sprint("2^", at), decoded(t, b), want)
			b[1] = 1
			hasValue(t, fmt.Sprint("-2^", at), decoded(t, b), opposite(want))
			decodes(t, b)
		}
	}
}
