package lang

import (
	"bytes"

	"armada/api"
)

// What was done with a machine is written as acts. An act begins with a byte: the number of the process that did a step; aDelivery and the source, before the destination; or aRun, before the seed and the number of steps.
const (
	aDelivery = api.MaxRanks
	aRun      = 2 * api.MaxRanks
)

// markSize is how many bytes the mark at the end of saved bytes has.
const markSize = 8

func appendStep(b []byte, p int) []byte { return append(b, byte(p)) }

func appendDelivery(b []byte, src, dst int) []byte { return append(b, byte(aDelivery+src), byte(dst)) }

func appendRun(b []byte, seed uint64, steps int) []byte {
	return appendNumbers(appendWord(append(b, aRun), seed), steps)
}

// appendNumbers adds integers, each in few bytes if it is near 0. The lowest bits come first, and the bit 128 says that more bytes follow.
func appendNumbers(b []byte, l ...int) []byte {
	for _, x := range l {
		n := uint64(int64(x)<<1) ^ uint64(int64(x)>>63)
		for ; n >= 128; n >>= 7 {
			b = append(b, byte(n)|128)
		}
		b = append(b, byte(n))
	}
	return b
}

func appendString(b []byte, s string) []byte { return append(appendNumbers(b, len(s)), s...) }

// Save returns the state of a machine as bytes: how it was made, what was done with it, and a mark.
func (m *Machine) Save() ([]byte, api.Errno) {
	if !m.valid() {
		return nil, api.ErrNil
	}
	b := appendNumbers(nil, len(m.processes), m.eager, m.credits)
	for _, q := range m.processes {
		b = appendNumbers(appendNumbers(b, len(q.forced)), q.forced...)
		b = q.fed.appendTo(b)
	}
	b = append(b, m.log...)
	return appendWord(b, m.mark(b)), api.OK
}

// appendTo adds the events with which a process is fed, behind their number; -1 if it is not fed.
func (f *food) appendTo(b []byte) []byte {
	if f == nil {
		return appendNumbers(b, -1)
	}
	b = appendNumbers(b, len(f.receives)+len(f.meets))
	for _, x := range f.receives {
		b = appendWord(appendNumbers(b, ERecv, x.Peer, x.Tag, x.No), uint64(x.Value))
	}
	for _, x := range f.meets {
		b = appendWord(appendNumbers(b, EMeet, x.Peer, x.Tag, x.No), uint64(x.Value))
	}
	return b
}

// mark returns a number that depends on bytes and on the programs of the machine (FNV-1a).
func (m *Machine) mark(b []byte) uint64 {
	n := uint64(14695981039346656037)
	mix := func(b []byte) {
		for _, x := range b {
			n = (n ^ uint64(x)) * 1099511628211
		}
	}
	for _, q := range m.processes {
		for _, in := range q.code {
			mix(appendString(appendString(appendWord(appendNumbers(nil, in.Op), uint64(in.Arg)), in.Name), in.Other))
		}
	}
	mix(b)
	return n
}

// Load returns the machine whose state was saved: it does again what was done with that one.
func Load(programs [][]Node, b []byte) (*Machine, api.Errno) {
	if len(b) < markSize {
		return nil, api.ErrForm
	}
	content := b[:len(b)-markSize]
	s := saved{rest: content}
	m, e := New(programs, s.number(), s.number(), s.number())
	if e != api.OK || m.mark(content) != wordOf(b[len(content):]) {
		return nil, api.ErrForm
	}
	s.redo(m)
	// whatever could not be read, or not be done again, is missing here
	if again, _ := m.Save(); !bytes.Equal(again, b) {
		return nil, api.ErrForm
	}
	return m, api.OK
}

// saved is saved bytes that are read from the first one to the last one. All that is behind the last one is 0.
type saved struct {
	rest []byte
	torn bool // whether a byte was missing
}

func (s *saved) take(n int) []byte {
	if n > len(s.rest) {
		s.torn, s.rest = true, nil
		return make([]byte, n)
	}
	b := s.rest[:n]
	s.rest = s.rest[n:]
	return b
}

func (s *saved) number() int {
	var n uint64
	for shift := 0; ; shift += 7 {
		x := s.take(1)[0]
		n |= uint64(x&127) << shift
		if x < 128 {
			return int(int64(n>>1) ^ -int64(n&1))
		}
	}
}

func (s *saved) word() uint64 { return wordOf(s.take(8)) }

// redo does with a machine what was done with the one that was saved.
func (s *saved) redo(m *Machine) {
	for p := range m.processes {
		m.Force(p, s.sources())
		if n := s.number(); n >= 0 {
			m.Feed(p, s.events(n))
		}
	}
	for len(s.rest) > 0 {
		s.act(m)
	}
}

func (s *saved) sources() []int {
	var l []int
	for i := s.number(); i > 0 && !s.torn; i-- {
		l = append(l, s.number())
	}
	return l
}

func (s *saved) events(n int) []Event {
	var l []Event
	for i := 0; i < n && !s.torn; i++ {
		l = append(l, Event{Kind: s.number(), Peer: s.number(), Tag: s.number(), No: s.number(), Value: int64(s.word())})
	}
	return l
}

// act does one act again.
func (s *saved) act(m *Machine) {
	switch first := int(s.take(1)[0]); {
	case first < aDelivery:
		m.Step(first)
	case first < aRun:
		m.Deliver(first-aDelivery, int(s.take(1)[0]))
	case first == aRun:
		m.Run(s.word(), s.number())
	}
}
