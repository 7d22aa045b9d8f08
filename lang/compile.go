package lang

import "armada/api"

// The bits of Arg of IRecv and IIrecv.
const (
	anySource = 1
	anyTag    = 2
)

// codes has the operations of the instructions of nodes, by the operation of the node. Those of two expressions have IBin.
var codes = [...]int{
	NSet:     IStore,
	NSend:    ISend,
	NRecv:    IRecv,
	NIsend:   IIsend,
	NIrecv:   IIrecv,
	NWait:    IWait,
	NBarrier: IBarrier,
	NBcast:   IBcast,
	NReduce:  IReduce,
	NPrint:   IPrint,
	NWork:    IWork,
	NInt:     IPush,
	NName:    ILoad,
	NRank:    IRank,
	NSize:    ISize,
	NNeg:     INeg,
	NNot:     INot,
}

// Wild reports whether a program receives from any process.
func Wild(l []Node) bool { return Check(l) == api.OK && isWild(l) }

func isWild(l []Node) bool {
	for _, n := range l {
		switch {
		case receives(n.Op) && n.Args[0].Op == NAny:
			return true
		case isWild(n.Body) || isWild(n.Else):
			return true
		}
	}
	return false
}

func receives(op int) bool { return op == NRecv || op == NIrecv }

// Compile returns the instructions of a program.
func Compile(l []Node) ([]Instr, api.Errno) {
	if e := Check(l); e != api.OK {
		return nil, e
	}
	var c code
	c.addStatements(l)
	c.add(Instr{Op: IEnd})
	return c, api.OK
}

// code is a list of instructions to which more are added.
type code []Instr

// add adds an instruction, and returns its number.
func (c *code) add(in Instr) int {
	*c = append(*c, in)
	return len(*c) - 1
}

// lead lets a jump lead behind all instructions that were added.
func (c code) lead(jump int) { c[jump].Arg = int64(len(c)) }

func (c *code) addStatements(l []Node) {
	for _, n := range l {
		switch n.Op {
		case NIf:
			c.addIf(n)
		case NWhile:
			c.addWhile(n)
		default:
			c.addNode(n)
		}
	}
}

func (c *code) addIf(n Node) {
	c.addNode(n.Args[0])
	over := c.add(Instr{Op: IZero})
	c.addStatements(n.Body)
	if len(n.Else) > 0 {
		end := c.add(Instr{Op: IJump})
		c.lead(over)
		c.addStatements(n.Else)
		over = end
	}
	c.lead(over)
}

func (c *code) addWhile(n Node) {
	first := len(*c)
	c.addNode(n.Args[0])
	over := c.add(Instr{Op: IZero})
	c.addStatements(n.Body)
	c.add(Instr{Op: IJump, Arg: int64(first)})
	c.lead(over)
}

// addNode adds the instructions of an expression, or of a statement without a Body.
func (c *code) addNode(n Node) {
	for _, x := range n.Args {
		if x.Op != NAny {
			c.addNode(x)
		}
	}
	c.add(instructionOf(n))
}

// instructionOf returns the last one of the instructions of a node.
func instructionOf(n Node) Instr {
	if isBinary(n.Op) {
		return Instr{Op: IBin, Arg: int64(n.Op)}
	}
	in := Instr{Op: codes[n.Op], Arg: n.Value, Name: n.Name, Other: n.Other}
	if receives(n.Op) && n.Args[0].Op == NAny {
		in.Arg |= anySource
	}
	if receives(n.Op) && n.Args[1].Op == NAny {
		in.Arg |= anyTag
	}
	return in
}
