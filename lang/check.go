package lang

import (
	"strings"

	"armada/api"
)

// The places of nodes.
const (
	inList = 1 // a statement
	inArgs = 2 // an expression
	inFrom = 3 // an expression or any
)

// inspection is what is known of a program after some of its nodes. Both sorts of names are in one map: true for those of requests.
type inspection struct {
	nodes int
	names map[string]bool
}

// Check checks a program.
func Check(l []Node) api.Errno {
	if isDeeper(l, api.MaxDepth) {
		return api.ErrDeep
	}
	i := inspection{names: map[string]bool{}}
	switch {
	case !i.all(l, inList):
		return api.ErrArg
	case i.nodes > MaxNodes || len(i.names) > MaxNames:
		return api.ErrMany
	}
	return api.OK
}

// isDeeper reports whether nodes are nested deeper than that. Lists can contain themselves, so that it looks no further then.
func isDeeper(l []Node, depth int) bool {
	if len(l) > 0 && depth == 0 {
		return true
	}
	for i := range l {
		n := &l[i]
		if isDeeper(n.Args, depth-1) || isDeeper(n.Body, depth-1) || isDeeper(n.Else, depth-1) {
			return true
		}
	}
	return false
}

// all inspects nodes and those in them, and reports whether they have their forms at this place.
func (i *inspection) all(l []Node, place int) bool {
	for k := range l {
		if !i.node(&l[k], place) {
			return false
		}
	}
	return true
}

func (i *inspection) node(n *Node, place int) bool {
	i.nodes++
	text := textOf(*n)
	switch {
	case text == "" || isStatement(n.Op) != (place == inList) || n.Op == NAny && place != inFrom:
		return false
	case !isValue(n) || len(n.Args) != strings.Count(text, "E")+strings.Count(text, "F"):
		return false
	case !i.name(n.Name, strings.Contains(text, "N"), namesRequest(n.Op)) || !i.name(n.Other, strings.Contains(text, "O"), false):
		return false
	case len(n.Body) > 0 && !hasBody(n.Op) || len(n.Else) > 0 && n.Op != NIf:
		return false
	}
	ofArgs := inArgs
	if strings.Contains(text, "F") {
		ofArgs = inFrom
	}
	return i.all(n.Args, ofArgs) && i.all(n.Body, inList) && i.all(n.Else, inList)
}

// isValue reports whether the Value of a node is one that its operation has.
func isValue(n *Node) bool {
	switch n.Op {
	case NInt:
		return n.Value >= 0
	case NSend:
		return n.Value == 0 || n.Value == 1
	case NReduce:
		return n.Value >= api.OpSum && n.Value <= api.OpXor
	}
	return n.Value == 0
}

// name inspects a field of a node that has a name, or, if it is not used, none.
func (i *inspection) name(s string, used, request bool) bool {
	if !used {
		return s == ""
	}
	was, known := i.names[s]
	if !isName(s) || known && was != request {
		return false
	}
	i.names[s] = request
	return true
}
