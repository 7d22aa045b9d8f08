package sum

import (
	"bytes"

	"armada/api"
)

// maxBytes is how many bytes a sum has at most.
const maxBytes = 2 + (wordCount-1)*8

// Acc is an exact sum of real numbers.
type Acc struct {
	made  bool // by a function of the package: otherwise the sum is not valid
	knows facts
}

// New returns a sum of no numbers.
func New() *Acc { return &Acc{made: true} }

func (a *Acc) valid() bool { return a != nil && a.made }

// join adds the numbers of another sum, unless the exact sum would not fit.
func (a *Acc) join(more facts) api.Errno {
	all := a.knows
	if !all.join(more) {
		return api.ErrOver
	}
	a.knows = all
	return api.OK
}

// Add adds a real number.
func (a *Acc) Add(bits uint64) api.Errno {
	if !a.valid() {
		return api.ErrNil
	}
	return a.join(factsOf(bits))
}

// Merge adds the numbers of another sum.
func (a *Acc) Merge(b *Acc) api.Errno {
	if !a.valid() || !b.valid() {
		return api.ErrNil
	}
	return a.join(b.knows)
}

// Value returns the real number nearest to the sum.
func (a *Acc) Value() uint64 {
	if !a.valid() {
		return 0
	}
	return a.knows.value()
}

// Same reports whether two sums are equal.
func (a *Acc) Same(b *Acc) bool { return a.valid() && b.valid() && a.knows == b.knows }

// Copy returns an independent sum.
func (a *Acc) Copy() *Acc {
	if !a.valid() {
		return nil
	}
	same := *a
	return &same
}

// Encode returns the bytes of a sum.
func (a *Acc) Encode() ([]byte, api.Errno) {
	if !a.valid() {
		return nil, api.ErrNil
	}
	return a.knows.encode(), api.OK
}

// Decode returns the sum of bytes.
func Decode(b []byte) (*Acc, api.Errno) {
	switch {
	case len(b) > maxBytes:
		return nil, api.ErrLong
	case len(b) < 2:
		return nil, api.ErrForm
	}
	knows := decode(b)
	if !knows.possible() || !bytes.Equal(knows.encode(), b) {
		return nil, api.ErrForm
	}
	return &Acc{true, knows}, api.OK
}
