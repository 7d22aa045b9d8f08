package lang_test

import (
	"math/big"
	"strings"
)

// grammar is the chapter's grammar. Words and signs are quoted; number and name are tokens.
const grammar = `
program   = { statement }
block     = "{" { statement } "}"
statement = name "=" expr ";"
          | ("send" | "ssend") expr "," expr "," expr ";"
          | "recv" name "," from "," from ";"
          | "isend" name "," expr "," expr "," expr ";"
          | "irecv" name "," name "," from "," from ";"
          | "wait" name ";"
          | "barrier" ";"
          | "bcast" name "," expr ";"
          | "reduce" name "," operation ";"
          | ("print" | "work") expr ";"
          | "if" expr block [ "else" block ]
          | "while" expr block
from      = "any" | expr
operation = "sum" | "prod" | "min" | "max" | "and" | "or" | "xor"
expr      = conj { "or" conj }
conj      = neg { "and" neg }
neg       = "not" neg | cmp
cmp       = add [ ("==" | "!=" | "<" | "<=" | ">" | ">=") add ]
add       = mul { ("+" | "-") mul }
mul       = unit { ("*" | "/" | "%") unit }
unit      = number | name | "rank" | "size" | "-" unit | "(" expr ")"
`

// words of the language.
const words = " any barrier bcast else if irecv isend not or and print rank recv reduce send size ssend wait while work sum prod min max xor "

// rules maps what is defined to its alternatives.
type rules map[string][][]string

// rulesOf returns the rules of a grammar; what is in brackets of some kind gets a name of its own.
func rulesOf(text string) rules {
	r := rules{}
	// brackets get spaces around them, but for those that are signs of the language
	spaced := strings.NewReplacer(`"(" expr ")"`, `"(" expr ")"`, `("`, `( "`, `")`, `" )`).Replace(text)
	pieces := strings.Fields(spaced)
	for i := 0; i < len(pieces); {
		name := pieces[i]
		i += 2
		i = r.define(name, pieces, i)
	}
	return r
}

// define reads alternatives, up to the end of a bracket or of a rule, and returns where it stopped.
func (r rules) define(name string, pieces []string, i int) int {
	alternative := []string{}
	for ; i < len(pieces); i++ {
		switch p := pieces[i]; {
		case p == ")" || p == "]" || p == "}" || i+1 < len(pieces) && pieces[i+1] == "=":
			r[name] = append(r[name], alternative)
			return i
		case p == "|":
			r[name] = append(r[name], alternative)
			alternative = []string{}
		case p == "(" || p == "[" || p == "{":
			inner := name + "/" + string(rune('0'+len(r)))
			r[inner] = nil
			i = r.define(inner, pieces, i+1)
			if p == "{" {
				for k, a := range r[inner] {
					r[inner][k] = append(a, inner)
				}
			}
			if p != "(" {
				r[inner] = append(r[inner], []string{})
			}
			alternative = append(alternative, inner)
		default:
			alternative = append(alternative, p)
		}
	}
	r[name] = append(r[name], alternative)
	return i
}

// item is an alternative of a rule that was read in part, from some token on.
type item struct {
	name             string
	alternative, dot int
	from             int
}

// states are the items that are possible before a token.
type states struct {
	list []item
	have map[item]bool
}

func (s *states) add(x item) {
	if !s.have[x] {
		s.have[x] = true
		s.list = append(s.list, x)
	}
}

// stops reads tokens (each as the grammar has it, the end as ""), and returns the index of the first one that cannot follow; -1 if all can.
func (r rules) stops(tokens []string) int {
	chart := []*states{{have: map[item]bool{}}}
	for a := range r["program"] {
		chart[0].add(item{name: "program", alternative: a})
	}
	for k, token := range tokens {
		next := &states{have: map[item]bool{}}
		chart = append(chart, next)
		whole := false
		// a part that is empty is over before its rule waits for it: so all of it is done again until nothing is new
		for before := -1; before != len(chart[k].list); {
			before = len(chart[k].list)
			for i := 0; i < len(chart[k].list); i++ {
				whole = r.advance(chart, k, chart[k].list[i], token) || whole
			}
		}
		if token == "" && whole {
			return -1
		}
		if len(next.list) == 0 {
			return k
		}
	}
	return len(tokens)
}

// advance does with an item what can be done before the token k, and reports whether it is a whole program.
func (r rules) advance(chart []*states, k int, x item, token string) bool {
	alternative := r[x.name][x.alternative]
	if x.dot == len(alternative) {
		for _, y := range chart[x.from].list {
			if l := r[y.name][y.alternative]; y.dot < len(l) && l[y.dot] == x.name {
				chart[k].add(item{y.name, y.alternative, y.dot + 1, y.from})
			}
		}
		return x.name == "program"
	}
	want := alternative[x.dot]
	if _, defined := r[want]; defined {
		for a := range r[want] {
			chart[k].add(item{want, a, 0, k})
		}
		return false
	}
	if want == token {
		chart[k+1].add(item{x.name, x.alternative, x.dot + 1, x.from})
	}
	return false
}

// split returns the tokens of a text as the grammar has them, and their offsets. The last one is "" for the end, or "?" where no token begins.
func split(text string) ([]string, []int) {
	var l []string
	var at []int
	for i := 0; ; {
		for i < len(text) && (text[i] == ' ' || text[i] == '\n' || text[i] == '#') {
			if text[i] == '#' {
				end := strings.IndexByte(text[i:]+"\n", '\n')
				i += end
				continue
			}
			i++
		}
		at = append(at, i)
		if i == len(text) {
			return append(l, ""), at
		}
		size, what := longest(text[i:])
		l = append(l, what)
		if what == "?" {
			return l, at
		}
		i += size
	}
}

// longest returns the size of the longest token with which a text begins, and the token as the grammar has it.
func longest(text string) (int, string) {
	in := func(set string) int {
		return len(text) - len(strings.TrimLeft(text, set))
	}
	const letters, digits = "abcdefghijklmnopqrstuvwxyz", "0123456789"
	if n := in(digits); n > 0 {
		value, _ := new(big.Int).SetString(text[:n], 10)
		if !value.IsInt64() || value.String() != text[:n] || strings.ContainsAny(text[n:min(n+1, len(text))], letters+"_") {
			return 0, "?"
		}
		return n, "number"
	}
	if in(letters) > 0 {
		n := in(letters + digits + "_")
		switch {
		case n > 12:
			return 0, "?"
		case strings.Contains(words, " "+text[:n]+" "):
			return n, `"` + text[:n] + `"`
		}
		return n, "name"
	}
	for n := min(2, len(text)); n > 0; n-- {
		if strings.Contains(" = == != < <= > >= + - * / % ( ) { } , ; ", " "+text[:n]+" ") {
			return n, `"` + text[:n] + `"`
		}
	}
	return 0, "?"
}

// firstError returns the offset of the first error of a text; -1 if it is of the grammar.
func (r rules) firstError(text string) int {
	l, at := split(text)
	k := r.stops(l)
	if k < 0 {
		return -1
	}
	return at[k]
}
