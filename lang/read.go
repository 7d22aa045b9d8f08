package lang

import (
	"strconv"

	"armada/api"
)

// The ranks of operators: those with a higher one bind their operands closer.
const (
	orRank      = 0
	andRank     = 1
	notRank     = 2
	compareRank = 3
	addRank     = 4
	mulRank     = 5
)

// giveUp is what a reader panics with at a token that cannot follow those before it.
type giveUp struct{}

// reader reads tokens from the left to the right; the first one of rest is that which it has not read yet.
type reader struct {
	rest []token
}

// Read returns the program of a text, or where it is not one.
func Read(text string) (l []Node, at int, e api.Errno) {
	if len(text) > api.MaxText {
		return nil, 0, api.ErrLong
	}
	var r reader
	for t := range tokens(text) {
		r.rest = append(r.rest, t)
	}
	defer func() {
		if recover() != nil {
			l, at, e = nil, r.token().at, api.ErrForm
		}
	}()
	for r.token().kind != theEnd {
		l = append(l, r.statement())
	}
	if e := Check(l); e != api.OK {
		return nil, 0, e
	}
	return l, 0, api.OK
}

// token returns the token that is next.
func (r *reader) token() token { return r.rest[0] }

// need gives up unless something is so.
func (r *reader) need(is bool) {
	if !is {
		panic(giveUp{})
	}
}

// take reads a token of a kind.
func (r *reader) take(kind int) string {
	t := r.token()
	r.need(t.kind == kind)
	r.rest = r.rest[1:]
	return t.text
}

// skip reads a word or a sign, if it is next.
func (r *reader) skip(text string) bool {
	if r.token().text != text {
		return false
	}
	r.rest = r.rest[1:]
	return true
}

func (r *reader) expect(text string) { r.need(r.skip(text)) }

func (r *reader) statement() Node {
	n := r.opening()
	r.fill(&n, textOf(n))
	if hasBody(n.Op) {
		n.Body = r.block()
	}
	if n.Op == NIf && r.skip("else") {
		r.expect("{")
		n.Else = r.block()
	}
	return n
}

// block reads statements up to the end of their block.
func (r *reader) block() []Node {
	var l []Node
	for !r.skip("}") {
		l = append(l, r.statement())
	}
	return l
}

// opening returns what the token that is next says of the statement that it begins. If it begins none, it is not the first word of the one that is returned, either.
func (r *reader) opening() Node {
	t := r.token()
	switch {
	case t.kind == aName:
		return Node{Op: NSet}
	case t.text == "ssend":
		return Node{Op: NSend, Value: 1}
	}
	op := NSend
	for op < NWhile && texts[op][:span(texts[op], isLetter)] != t.text {
		op++
	}
	return Node{Op: op}
}

// fill reads the text of a statement, and the parts of the node for which its capital letters stand.
func (r *reader) fill(n *Node, text string) {
	for text != "" {
		size := max(1, span(text, isLetter))
		switch piece := text[:size]; piece {
		case " ":
		case "N":
			n.Name = r.take(aName)
		case "O":
			n.Other = r.take(aName)
		case "P":
			n.Value = r.reduction()
		case "E":
			n.Args = append(n.Args, r.expression(orRank))
		case "F":
			n.Args = append(n.Args, r.from())
		default:
			r.expect(piece)
		}
		text = text[size:]
	}
}

func (r *reader) reduction() int64 {
	for i := range reductions {
		if r.skip(reductions[i]) {
			return int64(api.OpSum + i)
		}
	}
	panic(giveUp{})
}

func (r *reader) from() Node {
	if r.skip("any") {
		return Node{Op: NAny}
	}
	return r.expression(orRank)
}

// expression reads an expression. Its operators outside of parentheses have at least some rank.
func (r *reader) expression(least int) Node {
	n, most := r.operand(least)
	for {
		op, rank := r.operator()
		if rank < least || rank > most {
			return n
		}
		r.rest = r.rest[1:]
		n = Node{Op: op, Args: []Node{n, r.expression(rank + 1)}}
		most = rank
		if rank == compareRank { // no comparison of a comparison without parentheses
			most--
		}
	}
}

// operator returns the operator that is next, and its rank; -1 if there is none.
func (r *reader) operator() (int, int) {
	op := NAdd
	for op <= NOr && signs[op-NAdd] != r.token().text {
		op++
	}
	switch {
	case op > NOr:
		return 0, -1
	case op <= NSub:
		return op, addRank
	case op <= NMod:
		return op, mulRank
	case op <= NGe:
		return op, compareRank
	case op == NAnd:
		return op, andRank
	}
	return op, orRank
}

// operand reads what an expression begins with, and returns the highest rank of an operator behind it.
func (r *reader) operand(least int) (Node, int) {
	if least <= notRank && r.skip("not") {
		return Node{Op: NNot, Args: []Node{r.expression(notRank)}}, andRank
	}
	return r.unit(), mulRank
}

func (r *reader) unit() Node {
	switch {
	case r.skip("rank"):
		return Node{Op: NRank}
	case r.skip("size"):
		return Node{Op: NSize}
	case r.skip("-"):
		return Node{Op: NNeg, Args: []Node{r.unit()}}
	case r.skip("("):
		n := r.expression(orRank)
		r.expect(")")
		return n
	case r.token().kind == aName:
		return Node{Op: NName, Name: r.take(aName)}
	}
	value, _ := strconv.ParseInt(r.take(aNumber), 10, 64)
	return Node{Op: NInt, Value: value}
}
