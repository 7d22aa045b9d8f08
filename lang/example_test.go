package lang_test

import (
	"slices"
	"testing"

	"armada/api"
	"armada/lang"
)

// P7.1, P7.3: the rows of the chapter's table of examples about texts.
func TestExamplesOfTexts(t *testing.T) {
	if s, e := lang.Print(program(t, "x = 1 + 2 * rank; print x;")); s != "x = (1 + (2 * rank));\nprint x;\n" || e != api.OK {
		t.Errorf("%q %v", s, e)
	}
	for _, x := range []struct {
		text string
		at   int
	}{{"send 1, 2;", 9}, {"x = 3a;", 4}, {"if 1 { print 2;", 15}, {"print any;", 6}, {"wait = 1;", 5}} {
		if l, at, e := lang.Read(x.text); l != nil || at != x.at || e != api.ErrForm {
			t.Errorf("%q: %v %d %v", x.text, l, at, e)
		}
	}
	loop := []lang.Instr{
		{Op: lang.ILoad, Name: "x"}, {Op: lang.IPush, Arg: 2}, {Op: lang.IBin, Arg: 37}, {Op: lang.IZero, Arg: 9},
		{Op: lang.ILoad, Name: "x"}, {Op: lang.IPush, Arg: 1}, {Op: lang.IBin, Arg: 30}, {Op: lang.IStore, Name: "x"},
		{Op: lang.IJump}, {Op: lang.IEnd},
	}
	if c := code(t, program(t, "while x < 2 { x = x + 1; }")); !slices.Equal(c, loop) {
		t.Errorf("%+v", c)
	}
	receive := []lang.Instr{{Op: lang.IPush, Arg: 5}, {Op: lang.IRecv, Name: "x", Arg: 1}, {Op: lang.IEnd}}
	if c := code(t, program(t, "recv x, any, 5;")); !slices.Equal(c, receive) {
		t.Errorf("%+v", c)
	}
}

// P7.5, P7.6: the rows of the chapter's table of examples about machines, with many seeds.
func TestExamplesOfMachines(t *testing.T) {
	for seed := range uint64(50) {
		m := machine(t, 2, 1, programA)
		if r := run(t, m, seed); !r.Done {
			t.Fatal("A", r)
		}
		prints(t, m, 0)
		prints(t, m, 1, 42)
		shows(t, m, 1, lang.Event{Kind: lang.ERecv, Peer: 0, Tag: 7, No: 0, Value: 42})

		m = machine(t, 2, 1, programB)
		if r := run(t, m, seed); !r.Done {
			t.Fatal("B with a credit", r)
		}
		prints(t, m, 0, 1)
		prints(t, m, 1, 0)
		m = machine(t, 2, 0, programB)
		if r := run(t, m, seed); !r.Stuck {
			t.Fatal("B without credits", r)
		}
		kinds(t, m, lang.Waiting, lang.Waiting)

		m = machine(t, 3, 1, programC)
		if r := run(t, m, seed); !r.Done {
			t.Fatal("C", r)
		}
		for p := range 3 {
			prints(t, m, p, 2)
			failed(t, m, p, api.ErrRank)
		}
	}
	m := alone(t, "print 7 / (0 - 2); print 7 % (0 - 2); print 1 / 0;")
	run(t, m, 0)
	prints(t, m, 0, -4, -1)
	failed(t, m, 0, api.ErrArg)
	m = alone(t, "irecv r, x, any, any; send rank, 3, 9; wait r; print x; wait r;")
	run(t, m, 0)
	prints(t, m, 0, 9)
	failed(t, m, 0, api.ErrState)
}

// P7.5: the row of the chapter's table of examples about processes that have ended, or are at a meeting, when a packet arrives.
func TestExamplesOfArrivals(t *testing.T) {
	for seed := range uint64(50) {
		m := machine(t, 2, 0, "if rank == 0 { isend r, 1, 7, 42; } else { recv x, 0, 7; print x; }")
		if r := run(t, m, seed); !r.Done {
			t.Fatal("isend", seed, r)
		}
		prints(t, m, 1, 42)
		m = machine(t, 2, 0, "if rank == 0 { irecv r, x, 1, 7; barrier; wait r; print x; } else { send 0, 7, 5; barrier; }")
		if r := run(t, m, seed); !r.Done {
			t.Fatal("irecv", seed, r)
		}
		prints(t, m, 0, 5)
	}
	// the sender has ended when its message is cleared
	m := machine(t, 2, 0, "if rank == 0 { isend r, 1, 7, 42; } else { recv x, 0, 7; print x; }")
	onward(t, m, 0)
	kinds(t, m, lang.Ended)
	onward(t, m, 1)
	deliver(t, m, 0, 1, 1)
	still(t, m, 1)
	deliver(t, m, 1, 0, 1)
	deliver(t, m, 0, 1, 1)
	onward(t, m, 1)
	prints(t, m, 1, 42)
	// the receiver is at the meeting when the message arrives
	m = machine(t, 2, 0, "if rank == 0 { irecv r, x, 1, 7; barrier; wait r; print x; } else { send 0, 7, 5; barrier; }")
	onward(t, m, 0)
	kinds(t, m, lang.Meeting)
	onward(t, m, 1)
	kinds(t, m, lang.Meeting, lang.Waiting)
	deliver(t, m, 1, 0, 1)
	deliver(t, m, 0, 1, 1)
	onward(t, m, 1)
	deliver(t, m, 1, 0, 1)
	onward(t, m, 0)
	prints(t, m, 0, 5)
	kinds(t, m, lang.Ended, lang.Ended)
}
