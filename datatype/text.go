package datatype

import (
	"strconv"

	"armada/api"
)

// Print returns the string of a type.
func Print(t api.Type) (string, api.Errno) {
	c := constructors()
	if _, e := c.check(t); e != api.OK {
		return "", e
	}
	b := c.appendType(nil, t)
	if len(b) > api.MaxText {
		return "", api.ErrLong
	}
	return string(b), api.OK
}

// appendType adds the string of a type, and stops early once there are more than MaxText bytes.
func (c table) appendType(b []byte, t api.Type) []byte {
	k, before := c[t.Kind], "("
	b = append(b, k.name...)
	if isBasic(t.Kind) {
		return b
	}
	numbers, lists := k.fields(&t)
	for _, n := range numbers {
		b = strconv.AppendInt(append(b, before...), int64(*n), 10)
		before = ", "
	}
	for _, l := range lists {
		b = appendList(append(b, before...), *l)
		before = ", "
	}
	for i := range t.Of {
		if len(b) > api.MaxText {
			return b
		}
		b = c.appendType(append(b, before...), t.Of[i])
	}
	return append(b, ')')
}

func appendList(b []byte, l []int) []byte {
	before := "["
	for _, n := range l {
		b = strconv.AppendInt(append(b, before...), int64(n), 10)
		before = ", "
	}
	return append(b, ']')
}

// giveUp is what a reader panics with where the string is not that of a type.
type giveUp struct{}

// reader reads a string from the left to the right; rest is what it has not read yet.
type reader struct {
	table table
	kinds map[string]int
	rest  string
}

// Read returns the type of a string.
func Read(s string) (t api.Type, e api.Errno) {
	if len(s) > api.MaxText {
		return api.Type{}, api.ErrLong
	}
	defer func() {
		if recover() != nil {
			t, e = api.Type{}, api.ErrForm
		}
	}()
	r := reader{table: constructors(), kinds: map[string]int{}, rest: s}
	for kind, k := range r.table {
		r.kinds[k.name] = kind
	}
	t = r.readType(api.MaxDepth)
	r.need(r.rest == "")
	_, e = r.table.check(t)
	r.need(e == api.OK)
	return t, api.OK
}

// need gives up unless something is so.
func (r *reader) need(is bool) {
	if !is {
		panic(giveUp{})
	}
}

// readType reads a type of at most the given depth.
func (r *reader) readType(depth int) api.Type {
	r.need(depth > 0)
	kind, known := r.kinds[r.take(isLetter)]
	r.need(known)
	t := api.Type{Kind: kind}
	if isBasic(kind) {
		return t
	}
	r.expect("(")
	numbers, lists := r.table[kind].fields(&t)
	for _, n := range numbers {
		*n = r.readNumber()
		r.expect(", ")
	}
	for _, l := range lists {
		*l = r.readList()
		r.expect(", ")
	}
	t.Of = append(t.Of, r.readType(depth-1))
	for kind == api.Struct && r.skip(", ") {
		t.Of = append(t.Of, r.readType(depth-1))
	}
	r.expect(")")
	return t
}

func (r *reader) readList() []int {
	r.expect("[")
	l := []int{r.readNumber()}
	for r.skip(", ") {
		l = append(l, r.readNumber())
	}
	r.expect("]")
	return l
}

// readNumber reads a number that has just the form in which it would be printed.
func (r *reader) readNumber() int {
	s := r.take(isNumeral)
	n, err := strconv.Atoi(s)
	r.need(err == nil && strconv.Itoa(n) == s)
	return n
}

// take reads as many bytes as fit.
func (r *reader) take(fits func(b byte) bool) string {
	n := 0
	for n < len(r.rest) && fits(r.rest[n]) {
		n++
	}
	s := r.rest[:n]
	r.rest = r.rest[n:]
	return s
}

// skip reads s, if it is next.
func (r *reader) skip(s string) bool {
	if len(r.rest) < len(s) || r.rest[:len(s)] != s {
		return false
	}
	r.rest = r.rest[len(s):]
	return true
}

func (r *reader) expect(s string) { r.need(r.skip(s)) }

func isLetter(b byte) bool { return b >= 'a' && b <= 'z' }

func isNumeral(b byte) bool { return b >= '0' && b <= '9' || b == '-' }
