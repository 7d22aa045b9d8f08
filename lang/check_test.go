package lang_test

import (
	"fmt"
	"slices"
	"strings"
	"testing"

	"armada/api"
	"armada/lang"
)

// form says which fields a node uses, as the chapter's table has it.
type form struct {
	op          int
	values      []int64 // some that Value can have
	others      []int64 // some that it cannot have
	name, other bool
	args        int
	any         bool // whether Args can be NAny
	body, elses bool
}

// formsOf lists the forms of all nodes.
func formsOf() []form {
	none, zero := []int64{1, -1, 2, most, least}, []int64{0}
	l := []form{
		{op: lang.NSet, name: true, args: 1},
		{op: lang.NSend, values: []int64{0, 1}, others: []int64{-1, 2, most, least}, args: 3},
		{op: lang.NRecv, name: true, args: 2, any: true},
		{op: lang.NIsend, name: true, args: 3},
		{op: lang.NIrecv, name: true, other: true, args: 2, any: true},
		{op: lang.NWait, name: true},
		{op: lang.NBarrier},
		{op: lang.NBcast, name: true, args: 1},
		{op: lang.NReduce, values: []int64{1, 2, 3, 4, 5, 6, 7}, others: []int64{0, -1, 8, 9, 10, 11, most}, name: true},
		{op: lang.NPrint, args: 1},
		{op: lang.NWork, args: 1},
		{op: lang.NIf, args: 1, body: true, elses: true},
		{op: lang.NWhile, args: 1, body: true},
		{op: lang.NInt, values: []int64{0, 1, 99, most}, others: []int64{-1, least}},
		{op: lang.NName, name: true},
		{op: lang.NRank},
		{op: lang.NSize},
		{op: lang.NNeg, args: 1},
		{op: lang.NNot, args: 1},
	}
	for op := lang.NAdd; op <= lang.NOr; op++ {
		l = append(l, form{op: op, args: 2})
	}
	for i := range l {
		if l[i].values == nil {
			l[i].values, l[i].others = zero, none
		}
	}
	return l
}

// node returns a node of this form.
func (f form) node() lang.Node {
	n := lang.Node{Op: f.op, Value: f.values[0]}
	if f.name {
		n.Name = "a"
	}
	if f.other {
		n.Other = "b"
	}
	for range f.args {
		n.Args = append(n.Args, number(1))
	}
	return n
}

func isExpression(op int) bool { return slices.Contains(expressions, op) }

// around puts a node into a program at a place of its sort.
func around(n lang.Node) []lang.Node {
	if isExpression(n.Op) || n.Op == lang.NAny {
		n = lang.Node{Op: lang.NPrint, Args: []lang.Node{n}}
	}
	return []lang.Node{node(lang.NBarrier), n}
}

// checks fails unless Check, Print, Compile and New return an error, and Wild false.
func checks(t *testing.T, l []lang.Node, want api.Errno) {
	t.Helper()
	name := fmt.Sprintf("%.300s", fmt.Sprint(l[max(0, len(l)-2):]))
	is(t, "Check of "+name, lang.Check(l), want)
	s, e := lang.Print(l)
	is(t, "Print of "+name, e, want)
	c, e := lang.Compile(l)
	is(t, "Compile of "+name, e, want)
	if want != api.OK && (s != "" || len(c) > 0 || lang.Wild(l)) {
		t.Error("results beside an error:", s, c, lang.Wild(l), name)
	}
	m, e := lang.New([][]lang.Node{l}, 1, 0, 0)
	is(t, "New of "+name, e, want)
	if (m == nil) != (want != api.OK) {
		t.Error("a machine", m, want, name)
	}
}

// P7.2: each node with its form is well-formed; with any field that it does not use, or that is not as stated, it is not.
func TestCheckForms(t *testing.T) {
	for _, f := range formsOf() {
		good := f.node()
		checks(t, around(good), api.OK)
		spoil := func(change func(n *lang.Node), want api.Errno) {
			n := f.node()
			change(&n)
			checks(t, around(n), want)
		}
		for _, v := range f.values {
			spoil(func(n *lang.Node) { n.Value = v }, api.OK)
		}
		for _, v := range f.others {
			spoil(func(n *lang.Node) { n.Value = v }, api.ErrArg)
		}
		unless := func(used bool) api.Errno {
			if used {
				return api.OK
			}
			return api.ErrArg
		}
		spoil(func(n *lang.Node) { n.Name = "other" }, unless(f.name))
		spoil(func(n *lang.Node) { n.Other = "other" }, unless(f.other))
		spoil(func(n *lang.Node) { n.Name = "" }, unless(!f.name))
		spoil(func(n *lang.Node) { n.Other = "" }, unless(!f.other))
		spoil(func(n *lang.Node) { n.Body = []lang.Node{node(lang.NBarrier)} }, unless(f.body))
		spoil(func(n *lang.Node) { n.Else = []lang.Node{node(lang.NBarrier)} }, unless(f.elses))
		spoil(func(n *lang.Node) {
			n.Body, n.Else, n.Args = []lang.Node{}, []lang.Node{}, n.Args[:len(n.Args):len(n.Args)]
		}, api.OK)
		spoil(func(n *lang.Node) { n.Args = append(n.Args, number(1)) }, api.ErrArg)
		spoil(func(n *lang.Node) { n.Args = nil }, unless(f.args == 0))
		for i := range f.args {
			spoil(func(n *lang.Node) { n.Args = n.Args[1:] }, api.ErrArg)
			spoil(func(n *lang.Node) { n.Args[i] = node(lang.NAny) }, unless(f.any))
			spoil(func(n *lang.Node) { n.Args[i] = node(lang.NBarrier) }, api.ErrArg)
			spoil(func(n *lang.Node) { n.Args[i].Value = -1 }, api.ErrArg)
			spoil(func(n *lang.Node) { n.Args[i] = lang.Node{Op: lang.NAny, Value: 1} }, api.ErrArg)
		}
		if f.body {
			spoil(func(n *lang.Node) { n.Body = []lang.Node{number(1)} }, api.ErrArg)
			spoil(func(n *lang.Node) { n.Body = []lang.Node{{Op: lang.NWait}} }, api.ErrArg)
		}
		if f.elses {
			spoil(func(n *lang.Node) { n.Else = []lang.Node{named("x")} }, api.ErrArg)
			spoil(func(n *lang.Node) { n.Else = []lang.Node{{Op: lang.NWait, Name: "x", Value: 1}} }, api.ErrArg)
		}
	}
}

// P7.2: operations that there are not, and nodes where they cannot be.
func TestCheckPlaces(t *testing.T) {
	for _, op := range []int{lowest, -1, 0, 14, 15, 19, 27, 28, 29, 43, 44, 1 << 32, highest} {
		checks(t, []lang.Node{{Op: op}}, api.ErrArg)
		checks(t, []lang.Node{node(lang.NPrint, lang.Node{Op: op})}, api.ErrArg)
		checks(t, []lang.Node{node(lang.NPrint, node(op, number(1), number(1)))}, api.ErrArg)
	}
	for _, f := range formsOf() {
		if isExpression(f.op) {
			checks(t, []lang.Node{f.node()}, api.ErrArg)
		} else {
			checks(t, []lang.Node{node(lang.NPrint, f.node())}, api.ErrArg)
		}
	}
	checks(t, []lang.Node{node(lang.NAny)}, api.ErrArg)
	checks(t, []lang.Node{{Op: lang.NRecv, Name: "x", Args: []lang.Node{node(lang.NNeg, node(lang.NAny)), number(1)}}}, api.ErrArg)
	checks(t, nil, api.OK)
	checks(t, []lang.Node{}, api.OK)
}

// P7.2: names.
func TestCheckNames(t *testing.T) {
	fields := func(name string) [][]lang.Node {
		return [][]lang.Node{
			{{Op: lang.NSet, Name: name, Args: []lang.Node{number(1)}}},
			{{Op: lang.NWait, Name: name}},
			{node(lang.NPrint, named(name))},
			{{Op: lang.NIrecv, Name: "zz", Other: name, Args: []lang.Node{number(1), number(1)}}},
			{{Op: lang.NIrecv, Name: name, Other: "zz", Args: []lang.Node{number(1), number(1)}}},
		}
	}
	for _, name := range []string{"a", "z", "a0", "z9_", "abcdefghijkl", "a_", "a___________", "any1", "rank_", "sums", "i", "els", "elsee"} {
		for _, l := range fields(name) {
			checks(t, l, api.OK)
		}
	}
	bad := append(strings.Fields(words), "", "A", "aB", "0", "0a", "_", "_a", "abcdefghijklm", "a b", " a", "a ", "a-b", "a\n", "a\x00", "ä", "a`", "a{", "`", "{", "a/", "a:")
	for _, name := range bad {
		for _, l := range fields(name) {
			checks(t, l, api.ErrArg)
		}
	}
	if len(strings.Fields(words)) != 25 {
		t.Error("the language has 18 words and 7 operations, two of which are words, too:", len(strings.Fields(words)))
	}
}

// P7.2: a name is that of a request or that of a variable, wherever it is.
func TestCheckSorts(t *testing.T) {
	requests := []string{"wait %s;", "isend %s, 1, 2, 3;", "irecv %s, other, 1, 2;"}
	variables := []string{"%s = 1;", "recv %s, any, any;", "irecv other, %s, 1, 2;", "bcast %s, 1;", "reduce %s, min;", "print %s;", "send 1, 2, %s;", "if 1 {} else { while %s {} }", "isend other, 1, 2, 3 + %s;"}
	fill := func(text, name string) string { return strings.ReplaceAll(text, "%s", name) }
	for _, a := range requests {
		for _, b := range variables {
			for _, text := range []string{fill(a, "x") + fill(b, "x"), fill(b, "x") + fill(a, "x"), fill(b, "x") + "if 1 {" + fill(a, "x") + "}"} {
				refused(t, text, 0, api.ErrArg)
			}
			if !strings.Contains(a+b, "other") {
				program(t, fill(a, "x")+fill(b, "y"))
			}
		}
		for _, b := range requests {
			program(t, fill(a, "x")+fill(b, "x"))
		}
	}
	for _, a := range variables {
		for _, b := range variables {
			if !strings.Contains(a+b, "other") {
				program(t, fill(a, "x")+fill(b, "x"))
			}
		}
	}
}

// deep returns a program of some depth, from 2 on.
func deep(depth int) []lang.Node {
	n := node(lang.NPrint, number(1))
	for range depth - 2 {
		n = lang.Node{Op: lang.NWhile, Args: []lang.Node{number(1)}, Body: []lang.Node{n}}
	}
	return []lang.Node{n}
}

// many returns a program with some nodes, and with some names.
func many(nodes, names int) []lang.Node {
	var l []lang.Node
	for i := range names {
		l = append(l, lang.Node{Op: lang.NWait, Name: fmt.Sprint("n", i)})
	}
	for range nodes - names {
		l = append(l, node(lang.NBarrier))
	}
	return l
}

// P7.2: the limits.
func TestCheckLimits(t *testing.T) {
	for depth := 2; depth <= 20; depth++ {
		want := api.OK
		if depth > 8 {
			want = api.ErrDeep
		}
		checks(t, deep(depth), want)
		if s, e := lang.Print(deep(depth)); e == api.OK {
			text, _ := lang.Print(program(t, s))
			if text != s {
				t.Error(text, s)
			}
		}
	}
	value := number(1)
	for depth := 1; depth < 12; depth++ {
		want := api.OK
		if depth > 7 {
			want = api.ErrDeep
		}
		checks(t, []lang.Node{node(lang.NPrint, value)}, want)
		checks(t, []lang.Node{{Op: lang.NIf, Args: []lang.Node{number(1)}, Else: []lang.Node{node(lang.NPrint, value)}}}, map[bool]api.Errno{true: api.OK, false: api.ErrDeep}[depth <= 6])
		value = node(lang.NAdd, number(1), value)
	}
	checks(t, many(1000, 0), api.OK)
	checks(t, many(1001, 0), api.ErrMany)
	checks(t, many(1000, 32), api.OK)
	checks(t, many(33, 33), api.ErrMany)
	checks(t, many(1000, 33), api.ErrMany)
	// Args count, too, and so do those in Else
	nested := []lang.Node{{Op: lang.NIf, Args: []lang.Node{number(1)}, Body: many(400, 0), Else: many(400, 0)}}
	for nodes(nested) < 1000 {
		nested = append(nested, node(lang.NPrint, number(1)))
	}
	if nodes(nested) != 1000 {
		t.Fatal(nodes(nested))
	}
	checks(t, nested, api.OK)
	nested[0].Else = many(401, 0)
	checks(t, nested, api.ErrMany)
	// names of both sorts count together
	both := append(many(16, 16), lang.Node{Op: lang.NIrecv, Name: "n0", Other: "v0", Args: []lang.Node{number(1), number(1)}})
	for i := range 16 {
		both = append(both, lang.Node{Op: lang.NReduce, Name: fmt.Sprint("v", i), Value: 1})
	}
	checks(t, both, api.OK)
	checks(t, append(both, node(lang.NPrint, named("v16"))), api.ErrMany)
}

// P7.2, R1: ErrDeep comes before ErrArg, and this before ErrMany, wherever they are.
func TestCheckOrder(t *testing.T) {
	bad := []lang.Node{{Op: lang.NPrint}}
	for _, l := range [][]lang.Node{slices.Concat(bad, many(1001, 0)), slices.Concat(many(1001, 0), bad), slices.Concat(many(33, 33), bad), slices.Concat(bad, many(33, 33))} {
		checks(t, l, api.ErrArg)
		checks(t, slices.Concat(deep(9), l), api.ErrDeep)
		checks(t, slices.Concat(l, deep(9)), api.ErrDeep)
	}
	// also in fields that a node does not use
	for _, n := range []lang.Node{{Op: lang.NBarrier, Args: deep(8)}, {Op: lang.NInt, Body: deep(8)}, {Op: 99, Else: deep(8)}} {
		checks(t, []lang.Node{n}, api.ErrDeep)
		n.Args, n.Body, n.Else = tidy(n.Args), nil, nil
		n.Body = deep(7)
		if n.Args == nil {
			checks(t, []lang.Node{n}, api.ErrArg)
		}
	}
}

// P7.2, P0: lists that contain themselves are too deep.
func TestCheckCycles(t *testing.T) {
	for k := range 3 {
		l := []lang.Node{node(lang.NBarrier), {Op: lang.NIf, Args: []lang.Node{number(1)}}, node(lang.NBarrier)}
		switch k {
		case 0:
			l[1].Body = l
		case 1:
			l[1].Else = l
		case 2:
			l[1].Args = l
		}
		is(t, "Check", lang.Check(l), api.ErrDeep)
		if _, e := lang.Print(l); e != api.ErrDeep {
			t.Error(e)
		}
		if _, e := lang.Compile(l); e != api.ErrDeep || lang.Wild(l) {
			t.Error(e)
		}
		if _, e := lang.New([][]lang.Node{l}, 1, 0, 0); e != api.ErrDeep {
			t.Error(e)
		}
	}
}
