package lang_test

import (
	"slices"
	"testing"

	"armada/api"
	"armada/lang"
)

// saved returns the bytes of a machine.
func saved(t *testing.T, m *lang.Machine) []byte {
	t.Helper()
	b, e := m.Save()
	if e != api.OK || len(b) == 0 {
		t.Fatal("Save", b, e)
	}
	return b
}

// loaded returns the machine of bytes.
func loaded(t *testing.T, l [][]lang.Node, b []byte) *lang.Machine {
	t.Helper()
	m, e := lang.Load(l, b)
	if e != api.OK || m == nil {
		t.Fatal("Load", m, e)
	}
	return m
}

// P7.7: wherever a run was when its machine was saved, the one that is loaded goes on as that one does.
func TestSaveAndLoad(t *testing.T) {
	l := programs(t, "x = rank; isend r, (rank + 1) % size, 3, rank * 10; irecv s, y, any, 3; reduce x, sum; wait s; wait r; print x; print y; ssend (rank + 2) % size, 1, y; recv z, any, 1; print z;")
	for _, credits := range []int{0, 1, 64} {
		for limit := 0; limit < 400; limit += 3 {
			m := machineOf(t, l, 3, 16, credits)
			is(t, "Force", m.Force(0, []int{2}), api.OK)
			r, e := m.Run(uint64(limit), limit)
			if e != api.OK {
				t.Fatal(e)
			}
			b := saved(t, m)
			c := loaded(t, l, b)
			alike(t, "a machine that is loaded", m, c, "x", "y", "z", "r")
			again, _ := c.Run(8, lang.MaxSteps)
			want, _ := m.Run(8, lang.MaxSteps)
			if again != want {
				t.Fatal(again, want)
			}
			alike(t, "a machine that is loaded, later", m, c, "x", "y", "z", "r")
			if r.Done {
				break
			}
		}
	}
}

// P7.7: what was forced and fed, and whether a process has done a step, is saved, too.
func TestSaveBeforeSteps(t *testing.T) {
	l := programs(t, "recv x, any, any; reduce y, min; print x; print y;")
	m := machineOf(t, l, 2, 16, 1)
	is(t, "Force", m.Force(1, []int{0, 1, 0}), api.OK)
	is(t, "Feed", m.Feed(1, []lang.Event{{Kind: lang.EMeet, Value: -6}, {Kind: lang.ERecv, Peer: lowest, Tag: highest, No: lowest, Value: least}, {Kind: lang.EMeet, Value: most}}), api.OK)
	m = loaded(t, l, saved(t, m))
	is(t, "Force of one that has done no step", m.Force(0, []int{1}), api.OK)
	onward(t, m, 1)
	prints(t, m, 1, least, -6)
	shows(t, m, 1, lang.Event{Kind: lang.ERecv, Peer: lowest, Tag: highest, No: lowest, Value: least, Wild: true}, lang.Event{Kind: lang.EMeet, Value: -6})
	began(t, m, 1, lang.Deed{Kind: lang.DRecv, Peer: 0, Tag: -1}, lang.Deed{Kind: lang.DMeet})
	m = loaded(t, l, saved(t, m))
	is(t, "Force of one that has done steps", m.Force(1, nil), api.ErrState)
	is(t, "Feed of one that has done steps", m.Feed(1, nil), api.ErrState)
	is(t, "Feed of the other one", m.Feed(0, nil), api.OK)
	m = loaded(t, l, saved(t, m))
	onward(t, m, 0)
	began(t, m, 0, lang.Deed{Kind: lang.DRecv, Peer: 1, Tag: -1})
	kinds(t, m, lang.Waiting, lang.Ended)
	// the most events
	m = machineOf(t, l, 2, 16, 1)
	is(t, "Feed", m.Feed(0, slices.Repeat([]lang.Event{{Kind: lang.ERecv, Value: 3}}, 10000)), api.OK)
	m = loaded(t, l, saved(t, m))
	onward(t, m, 0)
	holds(t, m, 0, "x", 3)
}

// P7.7: packets that have arrived, and were not handled, are as they were.
func TestSaveArrived(t *testing.T) {
	l := programs(t, "send 1, 0, 4; send 1, 0, 5;", "print 1; recv x, 0, 0; recv y, 0, 0; print x; print y;")
	m := machineOf(t, l, 2, 16, 1)
	onward(t, m, 0)
	deliver(t, m, 0, 1, 1)
	m = loaded(t, l, saved(t, m))
	deliver(t, m, 0, 1, 1)
	onward(t, m, 1)
	// one that waits, and for which nothing happens, has handled what has arrived
	deliver(t, m, 1, 0, 2)
	still(t, loaded(t, l, saved(t, m)), 1)
	onward(t, m, 0)
	m = loaded(t, l, saved(t, m))
	deliver(t, m, 0, 1, 1)
	onward(t, m, 1)
	prints(t, m, 1, 1, 4, 5)

	m = machineOf(t, programs(t, "ssend 1, 0, 4;", "irecv r, x, 0, 0; recv y, 1, 1;"), 2, 16, 1)
	l = programs(t, "ssend 1, 0, 4;", "irecv r, x, 0, 0; recv y, 1, 1;")
	onward(t, m, 0)
	onward(t, m, 1)
	deliver(t, m, 0, 1, 1)
	still(t, m, 1)
	m = loaded(t, l, saved(t, m))
	deliver(t, m, 1, 0, 1) // the answer that this step has sent
}

// P7.7: the errors of Load.
func TestLoadErrors(t *testing.T) {
	l := programs(t, programA)
	m := machineOf(t, l, 2, 16, 1)
	is(t, "Force", m.Force(0, []int{1}), api.OK)
	is(t, "Feed", m.Feed(1, []lang.Event{{Kind: lang.ERecv, Value: 4}}), api.OK)
	m.Run(5, 9)
	step(t, m, 1, 1)
	b := saved(t, m)
	refuses := func(what string, l [][]lang.Node, b []byte) {
		t.Helper()
		if m, e := lang.Load(l, b); m != nil || e != api.ErrForm {
			t.Error(what, m, e)
		}
	}
	refuses("no bytes", l, nil)
	refuses("no bytes", l, []byte{})
	refuses("no bytes and no programs", nil, nil)
	for n := range b {
		refuses("a beginning", l, b[:n])
		refuses("an end", l, b[n+1:])
	}
	refuses("more bytes", l, append(slices.Clone(b), 0))
	for i := range b {
		for bit := range 8 {
			c := slices.Clone(b)
			c[i] ^= 1 << bit
			refuses("another bit", l, c)
		}
	}
	for what, other := range map[string][][]lang.Node{
		"no programs": nil, "too many programs": append(l, l[0], l[0]), "another program": programs(t, programB), "another number": programs(t, "if rank == 0 { send 1, 7, 43; } else { recv x, 0, 7; print x; }"),
		"another name": programs(t, "if rank == 0 { send 1, 7, 42; } else { recv y, 0, 7; print y; }"), "another order": {l[0], nil}, "a program that is not well-formed": {{{Op: 99}}}, "a deep one": {deep(9)},
	} {
		refuses(what, other, b)
	}
	// the same programs, one for each process
	alike(t, "a machine of two programs", m, loaded(t, append(l, l[0]), b))
}

// P0, P7.7: no bytes make Load panic or go on forever.
func TestLoadOddBytes(t *testing.T) {
	l := programs(t, programA)
	d := dice(77)
	for range 50000 {
		b := make([]byte, d.roll(60))
		for i := range b {
			b[i] = pick(&d, byte(d.roll(256)), byte(d.roll(4)), 255, 128)
		}
		if m, e := lang.Load(l, b); m != nil || e != api.ErrForm {
			t.Fatal(b, e)
		}
	}
	for _, x := range []byte{0, 1, 127, 128, 255} {
		if m, e := lang.Load(l, slices.Repeat([]byte{x}, 1<<20)); m != nil || e != api.ErrForm {
			t.Fatal(x, e)
		}
	}
}

// P7.7: bytes that are saved are few, as long as what was done with the machine is.
func TestSaveIsShort(t *testing.T) {
	l := programs(t, "while 1 { send (rank + 1) % size, 0, x; recv x, (rank + size - 1) % size, 0; x = x + 1; }")
	m := machineOf(t, l, 8, 16, 4)
	for seed := range uint64(5) {
		m.Run(seed, 20000)
	}
	b := saved(t, m)
	if len(b) > 200 {
		t.Error("5 runs are", len(b), "bytes")
	}
	alike(t, "a machine that is loaded", m, loaded(t, l, b), "x")
}
