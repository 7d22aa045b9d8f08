package lang

import "armada/api"

// texts has, by the operation of a node, its text as Print writes it, but for Body and Else. A capital letter stands for a part of the node: N for Name, O for Other, V for Value, P for Value as the name of an operation, and, one behind the other, for Args: E for one that is an expression, F for one that can also be any.
var texts = [...]string{
	NSet:     "N = E;",
	NSend:    "send E, E, E;",
	NRecv:    "recv N, F, F;",
	NIsend:   "isend N, E, E, E;",
	NIrecv:   "irecv N, O, F, F;",
	NWait:    "wait N;",
	NBarrier: "barrier;",
	NBcast:   "bcast N, E;",
	NReduce:  "reduce N, P;",
	NPrint:   "print E;",
	NWork:    "work E;",
	NIf:      "if E {",
	NWhile:   "while E {",
	NInt:     "V",
	NName:    "N",
	NRank:    "rank",
	NSize:    "size",
	NAny:     "any",
	NNeg:     "(-E)",
	NNot:     "(not E)",
}

// signs has the operators between two expressions, from NAdd on.
var signs = [...]string{"+", "-", "*", "/", "%", "==", "!=", "<", "<=", ">", ">=", "and", "or"}

// reductions has the names of the operations, from api.OpSum on.
var reductions = [...]string{"sum", "prod", "min", "max", "and", "or", "xor"}

// textOf returns the text of a node, in which capital letters stand for its parts; none if there is no such operation.
func textOf(n Node) string {
	switch {
	case n.Op == NSend && n.Value == 1:
		return "s" + texts[NSend]
	case isBinary(n.Op):
		return "(E " + signs[n.Op-NAdd] + " E)"
	case n.Op > 0 && n.Op < len(texts):
		return texts[n.Op]
	}
	return ""
}

func isStatement(op int) bool { return op >= NSet && op <= NWhile }

func isBinary(op int) bool { return op >= NAdd && op <= NOr }

func hasBody(op int) bool { return op == NIf || op == NWhile }

func namesRequest(op int) bool { return op == NIsend || op == NIrecv || op == NWait }

// isName reports whether variables and requests can have this name.
func isName(s string) bool {
	switch {
	case s == "" || len(s) > api.MaxName || !isLetter(s[0]):
		return false
	case span(s, isWordByte) < len(s):
		return false
	}
	return !isWord(s)
}

// isWord reports whether this is a word of the language.
func isWord(s string) bool {
	switch s {
	case "any", "barrier", "bcast", "else", "if", "irecv", "isend", "not", "print", "rank", "recv", "reduce", "send", "size", "ssend", "wait", "while", "work":
		return true
	case "sum", "prod", "min", "max", "and", "or", "xor":
		return true
	}
	return false
}

func isLetter(b byte) bool { return b >= 'a' && b <= 'z' }

func isDigit(b byte) bool { return b >= '0' && b <= '9' }

func isWordByte(b byte) bool { return isLetter(b) || isDigit(b) || b == '_' }

// span returns how many bytes at the beginning of a string fit.
func span(s string, fits func(b byte) bool) int {
	n := 0
	for n < len(s) && fits(s[n]) {
		n++
	}
	return n
}
