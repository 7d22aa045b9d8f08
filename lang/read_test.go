package lang_test

import (
	"strings"
	"testing"

	"armada/api"
	"armada/lang"
)

// refused fails unless Read returns an error at an offset, and no program.
func refused(t *testing.T, text string, at int, e api.Errno) {
	t.Helper()
	if l, k, f := lang.Read(text); len(l) > 0 || k != at || f != e {
		t.Errorf("%.60q: %v %d %v, not %d %v", text, l, k, f, at, e)
	}
}

// node returns a node with some Args.
func node(op int, args ...lang.Node) lang.Node { return lang.Node{Op: op, Args: args} }

func named(name string) lang.Node { return lang.Node{Op: lang.NName, Name: name} }

// P7.1: what each statement and each expression is read as.
func TestReadNodes(t *testing.T) {
	one, two, three := number(1), number(2), number(3)
	for _, x := range []struct {
		text string
		want lang.Node
	}{
		{"x = 1;", lang.Node{Op: lang.NSet, Name: "x", Args: []lang.Node{one}}},
		{"send 1, 2, 3;", node(lang.NSend, one, two, three)},
		{"ssend 1, 2, 3;", lang.Node{Op: lang.NSend, Value: 1, Args: []lang.Node{one, two, three}}},
		{"recv x, 1, 2;", lang.Node{Op: lang.NRecv, Name: "x", Args: []lang.Node{one, two}}},
		{"recv x, any, 2;", lang.Node{Op: lang.NRecv, Name: "x", Args: []lang.Node{node(lang.NAny), two}}},
		{"recv x, 1, any;", lang.Node{Op: lang.NRecv, Name: "x", Args: []lang.Node{one, node(lang.NAny)}}},
		{"isend r, 1, 2, 3;", lang.Node{Op: lang.NIsend, Name: "r", Args: []lang.Node{one, two, three}}},
		{"irecv r, x, any, any;", lang.Node{Op: lang.NIrecv, Name: "r", Other: "x", Args: []lang.Node{node(lang.NAny), node(lang.NAny)}}},
		{"irecv r, x, 1, 2;", lang.Node{Op: lang.NIrecv, Name: "r", Other: "x", Args: []lang.Node{one, two}}},
		{"wait r;", lang.Node{Op: lang.NWait, Name: "r"}},
		{"barrier;", node(lang.NBarrier)},
		{"bcast x, 1;", lang.Node{Op: lang.NBcast, Name: "x", Args: []lang.Node{one}}},
		{"reduce x, sum;", lang.Node{Op: lang.NReduce, Name: "x", Value: 1}},
		{"reduce x, prod;", lang.Node{Op: lang.NReduce, Name: "x", Value: 2}},
		{"reduce x, min;", lang.Node{Op: lang.NReduce, Name: "x", Value: 3}},
		{"reduce x, max;", lang.Node{Op: lang.NReduce, Name: "x", Value: 4}},
		{"reduce x, and;", lang.Node{Op: lang.NReduce, Name: "x", Value: 5}},
		{"reduce x, or;", lang.Node{Op: lang.NReduce, Name: "x", Value: 6}},
		{"reduce x, xor;", lang.Node{Op: lang.NReduce, Name: "x", Value: 7}},
		{"print 1;", node(lang.NPrint, one)},
		{"work 1;", node(lang.NWork, one)},
		{"if 1 { print 2; barrier; }", lang.Node{Op: lang.NIf, Args: []lang.Node{one}, Body: []lang.Node{node(lang.NPrint, two), node(lang.NBarrier)}}},
		{"if 1 {} else { print 2; }", lang.Node{Op: lang.NIf, Args: []lang.Node{one}, Else: []lang.Node{node(lang.NPrint, two)}}},
		{"if 1 { barrier; } else {}", lang.Node{Op: lang.NIf, Args: []lang.Node{one}, Body: []lang.Node{node(lang.NBarrier)}}},
		{"while 1 { while 2 {} }", lang.Node{Op: lang.NWhile, Args: []lang.Node{one}, Body: []lang.Node{node(lang.NWhile, two)}}},
		{"print x;", node(lang.NPrint, named("x"))},
		{"print abcdefghijkl;", node(lang.NPrint, named("abcdefghijkl"))},
		{"print ranks;", node(lang.NPrint, named("ranks"))},
		{"print a_1z;", node(lang.NPrint, named("a_1z"))},
		{"print 9223372036854775807;", node(lang.NPrint, lang.Node{Op: lang.NInt, Value: most})},
		{"print 0;", node(lang.NPrint, number(0))},
		{"print rank;", node(lang.NPrint, node(lang.NRank))},
		{"print size;", node(lang.NPrint, node(lang.NSize))},
		{"print -1;", node(lang.NPrint, node(lang.NNeg, one))},
		{"print --1;", node(lang.NPrint, node(lang.NNeg, node(lang.NNeg, one)))},
		{"print not 1;", node(lang.NPrint, node(lang.NNot, one))},
	} {
		if l, at, e := lang.Read(x.text); e != api.OK || at != 0 || !sameProgram(l, []lang.Node{x.want}) {
			t.Errorf("%q: %+v %d %v", x.text, l, at, e)
		}
	}
}

// P7.1: how operators bind, as Print shows it with parentheses.
func TestReadOperators(t *testing.T) {
	for _, x := range []struct{ text, want string }{
		{"1 + 2 + 3", "((1 + 2) + 3)"}, {"1 - 2 + 3 - 4", "(((1 - 2) + 3) - 4)"},
		{"1 * 2 / 3 % 4", "(((1 * 2) / 3) % 4)"}, {"1 + 2 * 3", "(1 + (2 * 3))"}, {"1 * 2 + 3", "((1 * 2) + 3)"},
		{"1 - 2 * 3 - 4", "((1 - (2 * 3)) - 4)"}, {"(1 + 2) * 3", "((1 + 2) * 3)"}, {"1 - (2 - 3)", "(1 - (2 - 3))"},
		{"1 + 2 == 3 * 4", "((1 + 2) == (3 * 4))"}, {"1 != 2 + 3", "(1 != (2 + 3))"}, {"1 < 2", "(1 < 2)"}, {"1 <= 2", "(1 <= 2)"},
		{"1 > 2", "(1 > 2)"}, {"1 >= 2", "(1 >= 2)"}, {"(1 < 2) < 3", "((1 < 2) < 3)"}, {"1 == (2 == 3)", "(1 == (2 == 3))"},
		{"1 and 2 and 3", "((1 and 2) and 3)"}, {"1 or 2 or 3", "((1 or 2) or 3)"}, {"1 or 2 and 3", "(1 or (2 and 3))"},
		{"1 and 2 or 3", "((1 and 2) or 3)"}, {"1 < 2 and 3 > 4", "((1 < 2) and (3 > 4))"},
		{"not 1 == 2", "(not (1 == 2))"}, {"not 1 and 2", "((not 1) and 2)"}, {"not not 1 or not 2", "((not (not 1)) or (not 2))"},
		{"1 and not 2 < 3", "(1 and (not (2 < 3)))"}, {"(not 1) + 2", "((not 1) + 2)"},
		{"-1 + 2", "((-1) + 2)"}, {"-1 * 2", "((-1) * 2)"}, {"1 - -2", "(1 - (-2))"}, {"-(1 + 2)", "(-(1 + 2))"}, {"not -1", "(not (-1))"},
		{"((((1))))", "1"}, {"rank+size*x", "(rank + (size * x))"}, {"1<=2", "(1 <= 2)"}, {"x--1", "(x - (-1))"},
	} {
		if s, e := lang.Print(program(t, "print "+x.text+";")); e != api.OK || s != "print "+x.want+";\n" {
			t.Errorf("%q: %q %v", x.text, s, e)
		}
	}
}

// P7.1: spaces, line ends and comments can be between tokens, and nothing else.
func TestReadGaps(t *testing.T) {
	want := program(t, "x = 1; print x <= 2;")
	for _, text := range []string{
		"x=1;print x<=2;", "\n\n  x\n=\n1 ; print\nx <= 2\n;\n ", "# a comment\nx = 1; # x = 2; \x00\xff\nprint x#\n<= 2;#", "x = 1;print x <=2;# no line end",
		"#\n#\nx=1#1\n;print#print\nx<=2;\n",
	} {
		if !sameProgram(program(t, text), want) {
			t.Errorf("%q", text)
		}
	}
	for _, text := range []string{"", " ", "\n", "#", "# x", "#\n", " # \n  #"} {
		if l, at, e := lang.Read(text); len(l) != 0 || at != 0 || e != api.OK {
			t.Errorf("%q: %v %d %v", text, l, at, e)
		}
	}
	for b := range 256 {
		if b == ' ' || b == '\n' || b == '#' {
			continue
		}
		text := "wait" + string([]byte{byte(b)}) + "r ;"
		if l, _, e := lang.Read(text); e == api.OK {
			t.Errorf("%q: %v", text, l)
		}
	}
}

// P7.1: where tokens begin, and where they do not.
func TestReadTokens(t *testing.T) {
	for _, x := range []struct {
		text string
		at   int
	}{
		{"print 9223372036854775808;", 6}, {"print -9223372036854775808;", 7}, {"print 10000000000000000000;", 6}, {"print 99999999999999999999999999;", 6},
		{"print 00;", 6}, {"print 01;", 6}, {"print 0123 + ;", 6}, {"print 0a;", 6}, {"print 1a;", 6}, {"print 12_;", 6}, {"print 123and 4;", 6}, {"print 9223372036854775807x;", 6},
		{"print 1A;", 7}, {"print 1 2;", 8}, {"print 1.5;", 7},
		{"abcdefghijklm = 1;", 0}, {"print 1 + abcdefghijkl1;", 10}, {"print 1 abcdefghijklm;", 8}, {"irecvirecvirecv r;", 0},
		{"print !1;", 6}, {"print 1 ! = 2;", 8}, {"print 1 =! 2;", 8}, {"print 1 != = 2;", 11}, {"print 1 < = 2;", 10}, {"print 1 === 2;", 10}, {"x == 1;", 2},
		{"\tx = 1;", 0}, {"x\r= 1;", 1}, {"x = \x80;", 4}, {"X = 1;", 0}, {"_x = 1;", 0}, {"x = y\xc3\xa9;", 5}, {"x = 1;\x00", 6}, {"x & 1;", 2}, {"x = [1];", 4},
		{"& 01", 0}, {"x 01", 2}, {"01 &", 0}, {"x = 1 & 01", 6}, {"x = 1; 9", 7},
	} {
		refused(t, x.text, x.at, api.ErrForm)
	}
}

// P7.1: the first token that cannot follow.
func TestReadOffsets(t *testing.T) {
	for _, x := range []struct {
		text string
		at   int
	}{
		{"x", 1}, {"x ", 2}, {"x # ", 4}, {"x =", 3}, {"x = ;", 4}, {"x = 1", 5}, {"x = 1 y = 2;", 6}, {"x, = 1;", 1}, {"= 1;", 0}, {";", 0}, {"x = 1;;", 6}, {"1 = x;", 0},
		{"send;", 4}, {"send 1;", 6}, {"send 1, 2, 3, 4;", 12}, {"send any, 1, 2;", 5}, {"send 1, any, 2;", 8}, {"ssend 1, 2, any;", 12}, {"send r, 1, 2", 12},
		{"recv 1, 2, 3;", 5}, {"recv any, 1, 2;", 5}, {"recv x, any + 1, 2;", 12}, {"recv x, 1 + any, 2;", 12}, {"recv x, (any), 2;", 9}, {"recv x, any;", 11}, {"recv x, any, any, any;", 16}, {"recv x any;", 7},
		{"isend 1, 2, 3;", 6}, {"isend r, 1, 2;", 13}, {"isend r, any, 2, 3;", 9}, {"irecv r, 1, 2;", 9}, {"irecv r, x, 1;", 13}, {"irecv r, x, any, any", 20}, {"irecv r, any, any;", 9},
		{"wait;", 4}, {"wait 1;", 5}, {"wait r s;", 7}, {"wait rank;", 5}, {"wait if;", 5}, {"wait sum;", 5}, {"barrier 1;", 8}, {"barrier", 7}, {"bcast x;", 7}, {"bcast x, any;", 9}, {"bcast 1, 1;", 6},
		{"reduce x;", 8}, {"reduce x, not;", 10}, {"reduce x, 1;", 10}, {"reduce x, y;", 10}, {"reduce x, any;", 10}, {"reduce x, sum, 1;", 13}, {"reduce sum, sum;", 7},
		{"print;", 5}, {"print 1, 2;", 7}, {"work any;", 5}, {"print sum;", 6}, {"print max + 1;", 6}, {"sum = 1;", 0}, {"xor = 1;", 0}, {"rank = 1;", 0}, {"else {}", 0}, {"any;", 0},
		{"print ();", 7}, {"print (1;", 8}, {"print 1);", 7}, {"print 1 +;", 9}, {"print + 1;", 6}, {"print 1 + not 2;", 10}, {"print - not 2;", 8}, {"print 1 < not 2;", 10}, {"print 1 < 2 < 3;", 12}, {"print 1 == 2 != 3;", 13},
		{"print not 1 < 2 < 3;", 16}, {"print 1 < 2 + 3 > 4;", 16}, {"print (1 < 2 < 3);", 13}, {"print 1 and;", 11}, {"print and 1;", 6}, {"print 1 or or 2;", 11}, {"print 1 not 2;", 8}, {"print 1 = 2;", 8},
		{"if 1 print 2;", 5}, {"if {}", 3}, {"if 1 {", 6}, {"if 1 }", 5}, {"if 1 { else {}", 7}, {"if 1 {} else", 12}, {"if 1 {} else print 1;", 13}, {"if 1 {} else if 2 {}", 13}, {"if 1 {} else {} else {}", 16}, {"if 1 {};", 7}, {"if 1 { wait r }", 14}, {"{ }", 0}, {"}", 0},
		{"while 1 {} else {}", 11}, {"while {}", 6}, {"while 1 { barrier;", 18}, {"while 1;", 7}, {"while any {}", 6},
		{"if 1 {} abcdefghijklm", 8}, {"if 1 { 01", 7}, {"x = y z 01", 6},
	} {
		refused(t, x.text, x.at, api.ErrForm)
	}
}

// P7.1: each text that ends too early has its error at its end.
func TestReadEnds(t *testing.T) {
	for _, text := range []string{
		"x = - ( 1 + 2 ) ;", "ssend 1 , 2 , not 3 ;", "recv x , any , any ;", "isend r , 1 , 2 , 3 ;", "irecv r , x , 1 == 1 , any ;", "wait r ;", "barrier ;", "bcast x , 1 ;",
		"reduce x , or ;", "print 1 or 2 ;", "work 1 and rank ;", "if 1 { barrier ; } else { while 2 { barrier ; } }",
	} {
		program(t, text)
		tokens := strings.Fields(text)
		for n := 1; n < len(tokens); n++ {
			s := strings.Join(tokens[:n], " ")
			if s == "if 1 { barrier ; }" {
				program(t, s)
				continue
			}
			refused(t, s, len(s), api.ErrForm)
			refused(t, s+" \n# end", len(s)+7, api.ErrForm)
			refused(t, s+" ?", len(s)+1, api.ErrForm)
		}
	}
}

// P7.1: Read agrees with the chapter's grammar, for texts that are nearly programs.
func TestReadGrammar(t *testing.T) {
	r := rulesOf(grammar)
	d := dice(71)
	tokens := append(strings.Fields(words), strings.Fields("= == != < <= > >= + - * / % ( ) { } , ; = ; , ( ) 0 1 7 42 x y r s 00 9223372036854775808 abcdefghijklm ! # \t & x")...)
	good, bad := 0, 0
	for range 6000 {
		a := author{dice: &d, wild: true}
		text, e := lang.Print(a.list(2+d.roll(5), 1+d.roll(3)))
		if e != api.OK {
			continue
		}
		l := strings.Fields(strings.NewReplacer("(", " ( ", ")", " ) ", ",", " , ", ";", " ; ").Replace(text))
		for range d.roll(3) {
			i := d.roll(len(l) + 1)
			switch d.roll(3) {
			case 0:
				l = append(l[:i:i], append([]string{pick(&d, tokens...)}, l[i:]...)...)
			case 1:
				l = append(l[:i:i], l[min(i+1, len(l)):]...)
			case 2:
				if i < len(l) {
					l[i] = pick(&d, tokens...)
				}
			}
		}
		text = ""
		for i, s := range l {
			if i > 0 && !d.often(4) {
				text += pick(&d, " ", "  ", "\n", " # c\n")
			}
			text += s
		}
		at := r.firstError(text)
		program, k, e := lang.Read(text)
		switch {
		case at >= 0:
			bad++
			if k != at || e != api.ErrForm || program != nil {
				t.Fatalf("%q: %v %d %v, not at %d", text, program, k, e, at)
			}
		case e == api.ErrForm || k != 0:
			t.Fatalf("%q: %d %v", text, k, e)
		default:
			good++
		}
	}
	if good < 1000 || bad < 1000 {
		t.Error("programs that are read:", good, "others:", bad)
	}
}

// P7.1: Read agrees with the chapter's grammar, for texts of few tokens.
func TestReadShortTexts(t *testing.T) {
	r := rulesOf(grammar)
	d := dice(72)
	tokens := append(strings.Fields(words), strings.Fields("= == < + - * ( ) { } , ; ; 1 2 x y")...)
	for range 20000 {
		var l []string
		for range 1 + d.roll(7) {
			l = append(l, pick(&d, tokens...))
		}
		text := strings.Join(l, " ")
		at := r.firstError(text)
		_, k, e := lang.Read(text)
		if (at >= 0) != (e == api.ErrForm) || k != max(at, 0) {
			t.Fatalf("%q: %d %v, not at %d", text, k, e, at)
		}
	}
}

// P7.1: a text has at most 65536 bytes, whatever is in it.
func TestReadLongTexts(t *testing.T) {
	for _, n := range []int{65535, 65536} {
		program(t, strings.Repeat(" ", n-9)+"barrier;\n")
		refused(t, strings.Repeat("x", n), 0, api.ErrForm)
		refused(t, strings.Repeat(" ", n-1)+"?", n-1, api.ErrForm)
		refused(t, strings.Repeat("(", n), 0, api.ErrForm)
		refused(t, "x="+strings.Repeat("(", n-2), n, api.ErrForm)
		refused(t, "x="+strings.Repeat("-", n-2), n, api.ErrForm)
		refused(t, "x="+strings.Repeat("-", n-4)+"1;", 0, api.ErrDeep)
		refused(t, strings.Repeat("if 1{", n/5), n/5*5, api.ErrForm)
		refused(t, "x="+strings.Repeat("not ", n/4-2), 2+4*(n/4-2), api.ErrForm)
		program(t, "x="+strings.Repeat("(", n/2-4)+"1"+strings.Repeat(")", n/2-4)+";")
	}
	for _, n := range []int{65537, 65538, 1 << 20} {
		refused(t, strings.Repeat(" ", n), 0, api.ErrLong)
		refused(t, "?"+strings.Repeat(" ", n-1), 0, api.ErrLong)
		refused(t, "x="+strings.Repeat("-", n-4)+"1;", 0, api.ErrLong)
	}
}

// P7.1: a text of the grammar whose program is not well-formed has the error of Check, and the offset 0.
func TestReadNotWellFormed(t *testing.T) {
	for _, x := range []struct {
		text string
		e    api.Errno
	}{
		{"print - - - - - - - 1;", api.ErrDeep}, {"print - - - - - - 1;", api.OK},
		{strings.Repeat("while 1 {", 8) + strings.Repeat("}", 8), api.ErrDeep}, {strings.Repeat("while 1 {", 7) + strings.Repeat("}", 7), api.OK},
		{"r = 1; wait r;", api.ErrArg}, {"wait r; print r;", api.ErrArg}, {"irecv r, r, any, any;", api.ErrArg}, {"isend x, 1, 2, x;", api.ErrArg}, {"isend x, 1, 2, 3; irecv y, x, 1, 1;", api.ErrArg},
		{"wait r; recv r, any, any;", api.ErrArg}, {"bcast r, 1; wait r;", api.ErrArg}, {"reduce r, sum; wait r;", api.ErrArg}, {"wait r; isend r, 1, 2, 3; irecv r, x, 1, 2;", api.OK},
		{strings.Repeat("barrier;", 1000), api.OK}, {strings.Repeat("barrier;", 1001), api.ErrMany},
		{strings.Repeat("barrier;", 1001) + "print - - - - - - - 1;", api.ErrDeep}, {"wait r; print r; print - - - - - - - 1;", api.ErrDeep}, {strings.Repeat("barrier;", 1001) + "wait r; print r;", api.ErrArg},
	} {
		if l, at, e := lang.Read(x.text); e != x.e || at != 0 || e != api.OK && l != nil {
			t.Errorf("%.40q: %v %d %v, not %v", x.text, l, at, e, x.e)
		}
		if x.e != api.OK {
			refused(t, x.text+"}", len(x.text), api.ErrForm)
		}
	}
}
