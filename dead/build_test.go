package dead_test

import (
	"slices"
	"strconv"
	"strings"
	"testing"

	"armada/api"
	"armada/dead"
	"armada/lang"
)

const (
	highest = int(^uint(0) >> 1)
	lowest  = -highest - 1
)

// deeds returns the deeds of a process, written as in the chapter: "send 1/5, ssend 1/5, isend 1/5, irecv any/any, recv 1/5, wait 0, meet".
func deeds(text string) []lang.Deed {
	var l []lang.Deed
	requests := 0
	for _, s := range strings.Split(text, ",") {
		word, rest, _ := strings.Cut(strings.TrimSpace(s), " ")
		if word == "" {
			continue
		}
		d := lang.Deed{Kind: kindOf(word), Sync: word == "ssend"}
		switch d.Kind {
		case lang.DWait:
			d.Req = number(rest)
		case lang.DIsend, lang.DIrecv:
			d.Req = requests
			requests++
		}
		if peer, tag, ok := strings.Cut(rest, "/"); ok {
			d.Peer, d.Tag = number(peer), number(tag)
		}
		l = append(l, d)
	}
	return l
}

// kindOf returns the kind of the deed of a word.
func kindOf(word string) int {
	return map[string]int{
		"send": lang.DSend, "ssend": lang.DSend, "recv": lang.DRecv,
		"isend": lang.DIsend, "irecv": lang.DIrecv, "wait": lang.DWait, "meet": lang.DMeet,
	}[word]
}

// number returns the number of a text; that of any is -1.
func number(text string) int {
	if text == "any" {
		return -1
	}
	n, e := strconv.Atoi(text)
	if e != nil {
		panic(e)
	}
	return n
}

// text writes deeds as in the chapter, at most 40 of them.
func text(l []lang.Deed) string {
	var words []string
	for _, d := range l[:min(len(l), 40)] {
		word := map[int]string{lang.DSend: "send", lang.DRecv: "recv", lang.DIsend: "isend", lang.DIrecv: "irecv", lang.DWait: "wait", lang.DMeet: "meet"}[d.Kind]
		if d.Sync {
			word = "ssend"
		}
		switch d.Kind {
		case lang.DWait:
			word += " " + strconv.Itoa(d.Req)
		case lang.DMeet:
		default:
			word += " " + strings.ReplaceAll(strconv.Itoa(d.Peer)+"/"+strconv.Itoa(d.Tag), "-1", "any")
		}
		words = append(words, word)
	}
	return strings.Join(words, ", ")
}

// texts writes a case.
func texts(c [][]lang.Deed) string {
	var lines []string
	for _, l := range c {
		lines = append(lines, text(l))
	}
	return strings.Join(lines, " | ")
}

// of returns the case of some processes.
func of(lines ...string) [][]lang.Deed {
	var c [][]lang.Deed
	for _, s := range lines {
		c = append(c, deeds(s))
	}
	return c
}

// The cases of the chapter's examples.
func caseA() [][]lang.Deed { return of("send 1/0, recv 1/0", "send 0/0, recv 0/0") }
func caseB() [][]lang.Deed { return of("recv 1/0, send 1/0", "recv 0/0, send 0/0") }
func caseC() [][]lang.Deed {
	return of("isend 1/0, recv 1/0, wait 0", "isend 0/0, recv 0/0, wait 0")
}
func caseD() [][]lang.Deed {
	return of("send 1/0, send 1/0, send 1/1", "recv 0/1, recv 0/0, recv 0/0")
}
func caseE() [][]lang.Deed { return of("recv 1/0", "") }
func caseF() [][]lang.Deed { return of("meet, meet", "meet", "meet") }
func caseG() [][]lang.Deed { return of("recv any/3", "send 0/3", "send 0/4") }
func caseH() [][]lang.Deed { return of("recv any/3, recv any/3", "send 0/3", "send 0/3") }

// repeat returns a text many times, as deeds one after the other.
func repeat(s string, n int) string {
	return strings.Join(slices.Repeat([]string{s}, n), ", ")
}

// is fails unless a call returned an error.
func is(t *testing.T, what string, got, want api.Errno) {
	t.Helper()
	if got != want {
		t.Errorf("%s: %v, not %v", what, got, want)
	}
}

// checks fails unless Check returns an error.
func checks(t *testing.T, c [][]lang.Deed, want api.Errno) {
	t.Helper()
	if e := dead.Check(c); e != want {
		t.Errorf("Check of %s, %+v: %v, not %v", texts(c), c, e, want)
	}
}

// ends fails unless the processes of a case come behind some deeds.
func ends(t *testing.T, c [][]lang.Deed, room int, want ...int) {
	t.Helper()
	if l, e := dead.End(c, room); !slices.Equal(l, want) || e != api.OK {
		t.Errorf("the end of %s with room %d is %v %v, not %v", texts(c), room, l, e, want)
	}
}

// finishes fails unless a case comes to its end with some room.
func finishes(t *testing.T, c [][]lang.Deed, room int) {
	t.Helper()
	var want []int
	for _, l := range c {
		want = append(want, len(l))
	}
	ends(t, c, room, want...)
	blocked(t, c, room)
}

// blocked fails unless the processes that do not come to their ends are some.
func blocked(t *testing.T, c [][]lang.Deed, room int, want ...dead.Block) {
	t.Helper()
	if l, e := dead.Blocks(c, room); !sameBlocks(l, want) || e != api.OK {
		t.Errorf("the blocked processes of %s with room %d are %+v %v, not %+v", texts(c), room, l, e, want)
	}
}

// sameBlocks reports whether two lists are the same. An empty list is a nil one.
func sameBlocks(a, b []dead.Block) bool {
	return slices.EqualFunc(a, b, func(x, y dead.Block) bool {
		return x.Process == y.Process && x.At == y.At && slices.Equal(x.For, y.For)
	})
}

// circles fails unless the cycle of a case is some processes.
func circles(t *testing.T, c [][]lang.Deed, room int, want ...int) {
	t.Helper()
	if l, e := dead.Cycle(c, room); !slices.Equal(l, want) || e != api.OK {
		t.Errorf("the cycle of %s with room %d is %v %v, not %v", texts(c), room, l, e, want)
	}
}

// shows fails unless the schedule of a case is some processes.
func shows(t *testing.T, c [][]lang.Deed, room int, want ...int) {
	t.Helper()
	if l, e := dead.Show(c, room); !slices.Equal(l, want) || e != api.OK {
		t.Errorf("the schedule of %s with room %d is %v %v, not %v", texts(c), room, l, e, want)
	}
}

// follows fails unless a schedule leads behind some deeds.
func follows(t *testing.T, c [][]lang.Deed, room int, schedule []int, end bool, want ...int) {
	t.Helper()
	if l, over, e := dead.Follow(c, room, schedule); !slices.Equal(l, want) || over != end || e != api.OK {
		t.Errorf("%s with room %d after %v: %v %v %v, not %v %v", texts(c), room, schedule, l, over, e, want, end)
	}
}

// followFails fails unless a schedule cannot be followed.
func followFails(t *testing.T, c [][]lang.Deed, room int, schedule []int, want api.Errno) {
	t.Helper()
	if l, over, e := dead.Follow(c, room, schedule); len(l) > 0 || over || e != want {
		t.Errorf("%s with room %d after %v: %v %v %v, not %v", texts(c), room, schedule, l, over, e, want)
	}
}

// decides fails unless a case has a verdict.
func decides(t *testing.T, c [][]lang.Deed, kind, room int) {
	t.Helper()
	if v, e := dead.Decide(c); v != (dead.Verdict{Kind: kind, Room: room}) || e != api.OK {
		t.Errorf("the verdict of %s is %+v %v, not %d with room %d", texts(c), v, e, kind, room)
	}
}

// narrows fails unless a case is narrowed to another one.
func narrows(t *testing.T, c, want [][]lang.Deed) {
	t.Helper()
	if l, ok, e := dead.Narrow(c); !sameCase(l, want) || !ok || e != api.OK {
		t.Errorf("%s is narrowed to %s %v %v, not to %s", texts(c), texts(l), ok, e, texts(want))
	}
}

// staysOpen fails unless a case cannot be narrowed.
func staysOpen(t *testing.T, c [][]lang.Deed) {
	t.Helper()
	if l, ok, e := dead.Narrow(c); len(l) > 0 || ok || e != api.OK {
		t.Errorf("%s is narrowed to %s %v %v", texts(c), texts(l), ok, e)
	}
	decides(t, c, dead.Unknown, 0)
}

// sameCase reports whether two cases are the same. An empty list is a nil one.
func sameCase(a, b [][]lang.Deed) bool {
	return slices.EqualFunc(a, b, func(x, y []lang.Deed) bool { return slices.Equal(x, y) })
}

// copied returns a copy of a case.
func copied(c [][]lang.Deed) [][]lang.Deed {
	var out [][]lang.Deed
	for _, l := range c {
		out = append(out, slices.Clone(l))
	}
	return out
}

// program returns the program of a text, and fails if it is none.
func program(t *testing.T, s string) []lang.Node {
	t.Helper()
	l, at, e := lang.Read(s)
	if e != api.OK || at != 0 {
		t.Fatalf("Read of %q: %d %v", s, at, e)
	}
	return l
}

// programs returns the programs of some texts.
func programs(t *testing.T, l ...string) [][]lang.Node {
	t.Helper()
	var out [][]lang.Node
	for _, s := range l {
		out = append(out, program(t, s))
	}
	return out
}

// traced returns the case of some programs, one for each of n processes, or one for all.
func traced(t *testing.T, n int, l ...string) [][]lang.Deed {
	t.Helper()
	c, e := dead.Trace(programs(t, l...), n)
	if e != api.OK {
		t.Fatal("Trace", n, l, e)
	}
	return c
}

// traceFails fails unless programs have no case.
func traceFails(t *testing.T, want api.Errno, n int, l ...string) {
	t.Helper()
	if c, e := dead.Trace(programs(t, l...), n); len(c) > 0 || e != want {
		t.Errorf("Trace of %q for %d: %s %v, not %v", l, n, texts(c), e, want)
	}
}

// dice yields the same numbers in each run of the tests.
type dice uint64

// roll returns a number from 0 to n - 1.
func (d *dice) roll(n int) int {
	*d = *d*6364136223846793005 + 1442695040888963407
	return int(uint64(*d)>>33) % n
}

// often reports true once in n times.
func (d *dice) often(n int) bool { return d.roll(n) == 0 }

// pick returns one of some elements.
func pick[T any](d *dice, l ...T) T { return l[d.roll(len(l))] }
