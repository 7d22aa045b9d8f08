package lang

import (
	"strconv"

	"armada/api"
)

// Print returns the text of a program.
func Print(l []Node) (string, api.Errno) {
	if e := Check(l); e != api.OK {
		return "", e
	}
	b := appendStatements(nil, l, "")
	if len(b) > api.MaxText {
		return "", api.ErrLong
	}
	return string(b), api.OK
}

// appendStatements adds the lines of statements.
func appendStatements(b []byte, l []Node, indent string) []byte {
	for _, n := range l {
		b = append(appendNode(append(b, indent...), n), '\n')
		if !hasBody(n.Op) {
			continue
		}
		b = appendStatements(b, n.Body, indent+"  ")
		if len(n.Else) > 0 {
			b = append(append(b, indent...), "} else {\n"...)
			b = appendStatements(b, n.Else, indent+"  ")
		}
		b = append(append(b, indent...), "}\n"...)
	}
	return b
}

// appendNode adds the text of a node, but for its Body and Else.
func appendNode(b []byte, n Node) []byte {
	text, args := textOf(n), n.Args
	for i := range len(text) {
		switch text[i] {
		case 'N':
			b = append(b, n.Name...)
		case 'O':
			b = append(b, n.Other...)
		case 'V':
			b = strconv.AppendInt(b, n.Value, 10)
		case 'P':
			b = append(b, reductions[n.Value-api.OpSum]...)
		case 'E', 'F':
			b = appendNode(b, args[0])
			args = args[1:]
		default:
			b = append(b, text[i])
		}
	}
	return b
}
