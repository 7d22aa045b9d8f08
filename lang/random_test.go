package lang_test

import (
	"slices"

	"armada/api"
	"armada/lang"
)

// The operations of nodes, by where they are.
var (
	statements  = []int{lang.NSet, lang.NSend, lang.NRecv, lang.NIsend, lang.NIrecv, lang.NWait, lang.NBarrier, lang.NBcast, lang.NReduce, lang.NPrint, lang.NWork, lang.NIf, lang.NWhile}
	expressions = []int{lang.NInt, lang.NName, lang.NRank, lang.NSize, lang.NNeg, lang.NNot, lang.NAdd, lang.NSub, lang.NMul, lang.NDiv, lang.NMod, lang.NEq, lang.NNe, lang.NLt, lang.NLe, lang.NGt, lang.NGe, lang.NAnd, lang.NOr}
)

// author writes programs at random. What it writes is well-formed, if it is not too long.
type author struct {
	*dice
	wild bool
	// tame programs run for a while: their peers are processes, and their tags are few
	tame bool
	// loops is how many loops a tame program has; each of them ends
	loops int
	// begun are the requests that a tame program has likely begun, so that it can wait for them
	begun []string
}

func (a *author) variable() string {
	return pick(a.dice, "x", "y", "z", "some_name_12", "a1", "b_", "rank_", "size1")
}

func (a *author) request() string { return pick(a.dice, "r", "s", "q0") }

// expression writes an expression of at most some depth.
func (a *author) expression(depth int) lang.Node {
	op := pick(a.dice, expressions...)
	if depth <= 1 {
		op = pick(a.dice, lang.NInt, lang.NName, lang.NRank, lang.NSize)
	}
	n := lang.Node{Op: op}
	args := 2
	switch op {
	case lang.NInt:
		n.Value = pick(a.dice, 0, 1, 2, 3, int64(a.roll(1000)), most, most-1)
		if a.tame {
			n.Value = int64(a.roll(9))
		}
		args = 0
	case lang.NName:
		n.Name = a.variable()
		args = 0
	case lang.NRank, lang.NSize:
		args = 0
	case lang.NNeg, lang.NNot:
		args = 1
	}
	for range args {
		n.Args = append(n.Args, a.expression(depth-1))
	}
	return n
}

// peer writes an expression that is the number of a process, or, once in a while, is not.
func (a *author) peer(depth int) lang.Node {
	switch {
	case !a.tame:
		return a.expression(depth)
	case a.often(40):
		return lang.Node{Op: lang.NSize}
	}
	step := lang.Node{Op: lang.NAdd, Args: []lang.Node{{Op: lang.NRank}, number(a.roll(4))}}
	return lang.Node{Op: lang.NMod, Args: []lang.Node{step, {Op: lang.NSize}}}
}

func (a *author) tag(depth int) lang.Node {
	switch {
	case !a.tame:
		return a.expression(depth)
	case a.often(60):
		return number(api.MaxTag + 1)
	}
	return number(a.roll(2))
}

// from writes where a message comes from, and its tag.
func (a *author) from(depth int) []lang.Node {
	l := []lang.Node{a.peer(depth), a.tag(depth)}
	if a.wild && a.often(3) {
		l[0] = lang.Node{Op: lang.NAny}
	}
	if a.often(4) {
		l[1] = lang.Node{Op: lang.NAny}
	}
	return l
}

// statement writes a statement of at most some depth, from 2 on.
func (a *author) statement(depth int) lang.Node {
	op := pick(a.dice, statements...)
	if depth < 3 {
		op = pick(a.dice, statements[:len(statements)-2]...)
	}
	n := lang.Node{Op: op}
	inner := depth - 1
	if a.tame {
		inner = min(inner, 3)
	}
	switch op {
	case lang.NSet:
		n.Name, n.Args = a.variable(), []lang.Node{a.expression(inner)}
	case lang.NSend, lang.NIsend:
		n.Args = []lang.Node{a.peer(inner), a.tag(inner), a.expression(inner)}
		if op == lang.NIsend {
			n.Name = a.request()
		} else {
			n.Value = int64(a.roll(2))
		}
	case lang.NRecv:
		n.Name, n.Args = a.variable(), a.from(inner)
	case lang.NIrecv:
		n.Name, n.Other, n.Args = a.request(), a.variable(), a.from(inner)
	case lang.NWait:
		n.Name = a.request()
	case lang.NBcast:
		n.Name, n.Args = a.variable(), []lang.Node{a.peer(inner)}
		if a.tame {
			n.Args = []lang.Node{number(a.roll(2))}
		}
	case lang.NReduce:
		n.Name, n.Value = a.variable(), int64(api.OpSum+a.roll(7))
	case lang.NPrint:
		n.Args = []lang.Node{a.expression(inner)}
	case lang.NWork:
		n.Args = []lang.Node{a.expression(inner)}
		if a.tame {
			n.Args = []lang.Node{number(a.roll(20))}
		}
	case lang.NIf, lang.NWhile:
		n = a.branch(op, inner)
	}
	return a.mend(n)
}

// mend lets a tame program begin a request that it does not have, and wait for one that it has.
func (a *author) mend(n lang.Node) lang.Node {
	if !a.tame || a.often(30) {
		return n
	}
	have := slices.Contains(a.begun, n.Name)
	switch n.Op {
	case lang.NWait:
		if len(a.begun) == 0 {
			return lang.Node{Op: lang.NPrint, Args: []lang.Node{{Op: lang.NRank}}}
		}
		n.Name = a.begun[0]
		a.begun = a.begun[1:]
	case lang.NIsend, lang.NIrecv:
		if have {
			return lang.Node{Op: lang.NPrint, Args: []lang.Node{{Op: lang.NSize}}}
		}
		a.begun = append(a.begun, n.Name)
	}
	return n
}

func (a *author) branch(op, depth int) lang.Node {
	n := lang.Node{Op: op, Args: []lang.Node{a.expression(depth)}}
	if op == lang.NWhile && a.tame {
		return a.loop(depth)
	}
	was := slices.Clone(a.begun)
	n.Body = a.list(depth, a.roll(4))
	a.begun = slices.Clone(was)
	if op == lang.NIf && a.often(2) {
		n.Else = a.list(depth, a.roll(4))
		a.begun = was
	}
	return n
}

// loop writes a loop that ends after at most three rounds, as its variable is used nowhere else.
func (a *author) loop(depth int) lang.Node {
	name := "loop" + string(rune('a'+a.loops))
	a.loops++
	turn := func(op int, value int) lang.Node {
		return lang.Node{Op: op, Args: []lang.Node{{Op: lang.NName, Name: name}, number(value)}}
	}
	was := slices.Clone(a.begun)
	body := a.list(depth, 1+a.roll(3))
	a.begun = was
	body = append(body, lang.Node{Op: lang.NSet, Name: name, Args: []lang.Node{turn(lang.NAdd, 1)}})
	return lang.Node{Op: lang.NWhile, Args: []lang.Node{turn(lang.NLt, a.roll(4))}, Body: body}
}

// list writes some statements of at most some depth.
func (a *author) list(depth, count int) []lang.Node {
	if depth < 2 {
		return nil
	}
	var l []lang.Node
	for range count {
		l = append(l, a.statement(depth))
	}
	return l
}

// free writes a program that can have anything in it.
func (a *author) free() []lang.Node { return a.list(2+a.roll(7), a.roll(9)) }

func number(n int) lang.Node { return lang.Node{Op: lang.NInt, Value: int64(n)} }

// nodes returns how many nodes a program has.
func nodes(l []lang.Node) int {
	count := len(l)
	for _, n := range l {
		count += nodes(n.Args) + nodes(n.Body) + nodes(n.Else)
	}
	return count
}

// tame writes a program that runs for a while.
func tame(d *dice, wild bool, count int) []lang.Node {
	for {
		a := author{dice: d, wild: wild, tame: true}
		l := a.list(5, count)
		if lang.Check(l) == api.OK {
			return l
		}
	}
}
