package lang_test

import (
	"slices"
	"testing"

	"armada/api"
	"armada/lang"
)

// P7.3: the instructions of all nodes.
func TestCompile(t *testing.T) {
	push := func(n int64) lang.Instr { return lang.Instr{Op: lang.IPush, Arg: n} }
	in := func(op int, arg int64, names ...string) lang.Instr {
		names = append(names, "", "")
		return lang.Instr{Op: op, Arg: arg, Name: names[0], Other: names[1]}
	}
	for _, x := range []struct {
		text string
		want []lang.Instr
	}{
		{"", nil},
		{"x = 1;", []lang.Instr{push(1), in(lang.IStore, 0, "x")}},
		{"send 1, 2, 3;", []lang.Instr{push(1), push(2), push(3), in(lang.ISend, 0)}},
		{"ssend 1, 2, 3;", []lang.Instr{push(1), push(2), push(3), in(lang.ISend, 1)}},
		{"recv x, 1, 2;", []lang.Instr{push(1), push(2), in(lang.IRecv, 0, "x")}},
		{"recv x, any, 2;", []lang.Instr{push(2), in(lang.IRecv, 1, "x")}},
		{"recv x, 1, any;", []lang.Instr{push(1), in(lang.IRecv, 2, "x")}},
		{"recv x, any, any;", []lang.Instr{in(lang.IRecv, 3, "x")}},
		{"isend r, 1, 2, 3;", []lang.Instr{push(1), push(2), push(3), in(lang.IIsend, 0, "r")}},
		{"irecv r, x, 1, 2;", []lang.Instr{push(1), push(2), in(lang.IIrecv, 0, "r", "x")}},
		{"irecv r, x, any, 2;", []lang.Instr{push(2), in(lang.IIrecv, 1, "r", "x")}},
		{"irecv r, x, 1, any;", []lang.Instr{push(1), in(lang.IIrecv, 2, "r", "x")}},
		{"irecv r, x, any, any;", []lang.Instr{in(lang.IIrecv, 3, "r", "x")}},
		{"wait r;", []lang.Instr{in(lang.IWait, 0, "r")}},
		{"barrier;", []lang.Instr{in(lang.IBarrier, 0)}},
		{"bcast x, 2;", []lang.Instr{push(2), in(lang.IBcast, 0, "x")}},
		{"reduce x, sum;", []lang.Instr{in(lang.IReduce, 1, "x")}},
		{"reduce x, xor;", []lang.Instr{in(lang.IReduce, 7, "x")}},
		{"print 9223372036854775807;", []lang.Instr{push(most), in(lang.IPrint, 0)}},
		{"work 5;", []lang.Instr{push(5), in(lang.IWork, 0)}},
		{"print x + rank * -size;", []lang.Instr{in(lang.ILoad, 0, "x"), in(lang.IRank, 0), in(lang.ISize, 0), in(lang.INeg, 0), in(lang.IBin, 32), in(lang.IBin, 30), in(lang.IPrint, 0)}},
		{"print not 1 or 2 and 3;", []lang.Instr{push(1), in(lang.INot, 0), push(2), push(3), in(lang.IBin, 41), in(lang.IBin, 42), in(lang.IPrint, 0)}},
		{"if 1 {}", []lang.Instr{push(1), in(lang.IZero, 2)}},
		{"if 1 { barrier; }", []lang.Instr{push(1), in(lang.IZero, 3), in(lang.IBarrier, 0)}},
		{"if 1 { barrier; } else {}", []lang.Instr{push(1), in(lang.IZero, 3), in(lang.IBarrier, 0)}},
		{"if 1 {} else { barrier; }", []lang.Instr{push(1), in(lang.IZero, 3), in(lang.IJump, 4), in(lang.IBarrier, 0)}},
		{"if 1 { wait r; } else { barrier; } wait s;", []lang.Instr{push(1), in(lang.IZero, 4), in(lang.IWait, 0, "r"), in(lang.IJump, 5), in(lang.IBarrier, 0), in(lang.IWait, 0, "s")}},
		{"barrier; while 0 {}", []lang.Instr{in(lang.IBarrier, 0), push(0), in(lang.IZero, 4), in(lang.IJump, 1)}},
		{"while rank { while size { barrier; } }", []lang.Instr{in(lang.IRank, 0), in(lang.IZero, 7), in(lang.ISize, 0), in(lang.IZero, 6), in(lang.IBarrier, 0), in(lang.IJump, 2), in(lang.IJump, 0)}},
		{"while 1 { if 2 { barrier; } else { wait r; } }", []lang.Instr{push(1), in(lang.IZero, 8), push(2), in(lang.IZero, 6), in(lang.IBarrier, 0), in(lang.IJump, 7), in(lang.IWait, 0, "r"), in(lang.IJump, 0)}},
	} {
		want := append(x.want, lang.Instr{Op: lang.IEnd})
		if c := code(t, program(t, x.text)); !slices.Equal(c, want) {
			t.Errorf("%q: %+v, not %+v", x.text, c, want)
		}
	}
	for op := lang.NAdd; op <= lang.NOr; op++ {
		c := code(t, []lang.Node{node(lang.NPrint, node(op, number(1), number(2)))})
		if !slices.Equal(c, []lang.Instr{push(1), push(2), in(lang.IBin, int64(op)), in(lang.IPrint, 0), in(lang.IEnd, 0)}) {
			t.Error(op, c)
		}
	}
}

// effect returns how many values an instruction pops, and then pushes.
func effect(in lang.Instr) (int, int) {
	switch in.Op {
	case lang.IPush, lang.ILoad, lang.IRank, lang.ISize:
		return 0, 1
	case lang.INeg, lang.INot:
		return 1, 1
	case lang.IBin:
		return 2, 1
	case lang.IStore, lang.IZero, lang.IBcast, lang.IPrint, lang.IWork:
		return 1, 0
	case lang.ISend, lang.IIsend:
		return 3, 0
	case lang.IRecv, lang.IIrecv:
		return []int{2, 1, 1, 0}[in.Arg], 0
	}
	return 0, 0
}

// P7.9: jumps lead to instructions; the stack has one height at each instruction, and is empty where a statement begins.
func TestCompiledPrograms(t *testing.T) {
	d := dice(91)
	for range 5000 {
		a := author{dice: &d, wild: true}
		l := a.free()
		c, e := lang.Compile(l)
		if e != api.OK {
			continue
		}
		heights := make([]int, len(c))
		for i := range heights {
			heights[i] = -1
		}
		lead := func(from, to, height int) {
			if to < 0 || to >= len(c) || heights[to] >= 0 && heights[to] != height {
				t.Fatalf("%+v: %d leads to %d", c, from, to)
			}
			heights[to] = height
		}
		// all ways but those back lead to later instructions
		lead(-1, 0, 0)
		for i, in := range c {
			pops, pushes := effect(in)
			height := heights[i] - pops
			if height < 0 {
				t.Fatalf("%+v: no value at %d", c, i)
			}
			height += pushes
			if in.Op == lang.IJump || in.Op == lang.IZero {
				if height != 0 {
					t.Fatalf("%+v: the stack is not empty at the jump %d", c, i)
				}
				lead(i, int(in.Arg), height)
			}
			if in.Op != lang.IJump && in.Op != lang.IEnd {
				lead(i, i+1, height)
			}
			if (in.Op >= lang.ISend || in.Op == lang.IStore) && height != 0 {
				t.Fatalf("%+v: the stack is not empty behind %d", c, i)
			}
			if in.Op == lang.IJump && heights[i+1] < 0 {
				t.Fatalf("%+v: nothing leads to %d", c, i+1)
			}
		}
		if c[len(c)-1] != (lang.Instr{Op: lang.IEnd}) || slices.Index(c, lang.Instr{Op: lang.IEnd}) != len(c)-1 {
			t.Fatalf("%+v does not end once", c)
		}
	}
}
