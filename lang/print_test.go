package lang_test

import (
	"strings"
	"testing"

	"armada/api"
	"armada/lang"
)

// P7.3: the texts of all nodes, and the layout.
func TestPrint(t *testing.T) {
	for _, x := range []string{
		"x = 1;\n", "send 1, 2, 3;\n", "ssend 1, 2, 3;\n", "recv x, 1, 2;\n", "recv x, any, 2;\n", "recv x, 1, any;\n", "recv x, any, any;\n",
		"isend r, 1, 2, 3;\n", "irecv r, x, 1, 2;\n", "irecv r, x, any, any;\n", "wait r;\n", "barrier;\n", "bcast x, 0;\n",
		"reduce x, sum;\n", "reduce x, prod;\n", "reduce x, min;\n", "reduce x, max;\n", "reduce x, and;\n", "reduce x, or;\n", "reduce x, xor;\n",
		"print 9223372036854775807;\n", "work rank;\n", "print size;\n", "print abcdefghijkl;\n",
		"print (-1);\n", "print (not (not 0));\n", "print (-(-(1 + x)));\n",
		"print (1 + 2);\n", "print (1 - 2);\n", "print (1 * 2);\n", "print (1 / 2);\n", "print (1 % 2);\n", "print (1 == 2);\n", "print (1 != 2);\n",
		"print (1 < 2);\n", "print (1 <= 2);\n", "print (1 > 2);\n", "print (1 >= 2);\n", "print (1 and 2);\n", "print (1 or 2);\n",
		"send (rank + 1), (-x), ((1 * 2) and (not 3));\n",
		"if 1 {\n}\n", "if (x == 1) {\n  barrier;\n}\n", "if 1 {\n} else {\n  barrier;\n}\n", "while x {\n}\n",
		"if 1 {\n  while 2 {\n    print 3;\n    print 4;\n  }\n  if 5 {\n  } else {\n    x = 6;\n  }\n} else {\n  while 7 {\n  }\n}\nbarrier;\n", "",
	} {
		if s, e := lang.Print(program(t, x)); s != x || e != api.OK {
			t.Errorf("%q: %q %v", x, s, e)
		}
	}
	if s, _ := lang.Print(program(t, "if 1 { barrier; } else {}")); s != "if 1 {\n  barrier;\n}\n" {
		t.Errorf("an empty else: %q", s)
	}
}

// P7.3, P7.8: the longest texts are those of programs that are well-formed; none is too long.
func TestPrintLongest(t *testing.T) {
	inner := strings.Repeat("reduce abcdefghijkl, prod;", 986)
	text := strings.Repeat("if 1 {", 7) + inner + strings.Repeat("}", 7)
	l := program(t, text)
	s, e := lang.Print(l)
	if e != api.OK || len(s) < 40000 || len(s) > api.MaxText {
		t.Fatal(len(s), e)
	}
	if !sameProgram(program(t, s), l) {
		t.Error("it is not read as the same program")
	}
	text = strings.Repeat("if 9223372036854775807 {} else { barrier; }", 333)
	s, e = lang.Print(program(t, text))
	if e != api.OK || !sameProgram(program(t, s), program(t, text)) {
		t.Error(len(s), e)
	}
}

// P7.8: each well-formed program is read from its text, and the text of what is read is that text.
func TestTextsBothWays(t *testing.T) {
	d := dice(81)
	read := 0
	for range 20000 {
		a := author{dice: &d, wild: true}
		l := a.free()
		s, e := lang.Print(l)
		if e != api.OK {
			if lang.Check(l) != e {
				t.Fatal(e)
			}
			continue
		}
		read++
		again, at, e := lang.Read(s)
		if e != api.OK || at != 0 || !sameProgram(again, l) {
			t.Fatalf("%s\n%+v\n%+v %d %v", s, l, again, at, e)
		}
		if text, _ := lang.Print(again); text != s {
			t.Fatalf("%s\n%s", s, text)
		}
		for i := range len(s) {
			if s[i] == '\n' && i > 0 && strings.IndexByte("{};", s[i-1]) < 0 {
				t.Fatalf("a line that ends in %q:\n%s", s[i-1], s)
			}
		}
	}
	if read < 5000 {
		t.Error("only", read, "programs")
	}
}

// P7.3: a program is wild if it receives from any process, wherever that is.
func TestWild(t *testing.T) {
	for _, x := range []struct {
		text string
		want bool
	}{
		{"", false}, {"recv x, any, 1;", true}, {"recv x, any, any;", true}, {"recv x, 1, any;", false}, {"irecv r, x, 1, any;", false}, {"irecv r, x, any, 1;", true},
		{"send 1, 2, 3; barrier; recv x, 1, 2;", false}, {"if 1 { recv x, any, 1; }", true}, {"if 1 {} else { recv x, any, 1; }", true}, {"while 1 { if 1 {} else { while 2 { irecv r, x, any, 1; } } }", true},
		{"if 1 { recv x, 1, any; } else { barrier; }", false}, {"recv x, 1, 1; recv x, any, 1;", true},
	} {
		if is := lang.Wild(program(t, x.text)); is != x.want {
			t.Error(x.text, is)
		}
	}
	wild := program(t, "recv x, any, 1;")
	for _, more := range [][]lang.Node{{{Op: 99}}, deep(9), many(1000, 0)} {
		if lang.Wild(append(wild, more...)) {
			t.Error("a program that is not well-formed is wild")
		}
	}
}
