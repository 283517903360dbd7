package grammar_test

import (
	"slices"
	"strings"
	"testing"

	"armistice/api"
	"armistice/grammar"
)

// TestExamples holds the chapter's table.
func TestExamples(t *testing.T) {
	text := "object a set 1 2\nbegin t\nop t a insert 5 -> 1\ncommit t\n"
	expectParse(t, text, one()[:4], api.Fault{})
	expectPrint(t, one()[:4], text, api.OK)

	refuseText(t, "abort", api.ErrForm, 5)
	refuseText(t, "go t", api.ErrWord, 0)
	refuseText(t, "begin T", api.ErrName, 6)
	refuseText(t, "begin t u", api.ErrForm, 8)
	refuseText(t, "object a", api.ErrForm, 8)
	refuseText(t, "object a set 2 1", api.ErrForm, 9)
	refuseText(t, "object a sets", api.ErrWord, 9)
	refuseText(t, "op t", api.ErrForm, 4)
	refuseText(t, "op t a", api.ErrForm, 6)
	refuseText(t, "op t a add x -> ok", api.ErrForm, 11)
	refuseText(t, "op t a add 1 -> 1", api.ErrReturn, 16)
	refuseText(t, "op t A add", api.ErrName, 5)

	accept(t, begin("t"), "begin t")
	refuse(t, api.Event{Kind: begins, Name: "t", Object: "a"}, api.ErrArg)
	expectPrint(t, nil, "", api.OK)
	refuse(t, api.Event{Kind: 6, Name: "t"}, api.ErrWord)
}

// TestNumbers: the numbers of the kinds, the limits and the errors are the document's.
func TestNumbers(t *testing.T) {
	if !slices.Equal([]int{api.EventObject, api.EventBegin, api.EventOp, api.EventCommit, api.EventAbort}, []int{objects, begins, ops, commits, aborts}) {
		t.Error("the kinds of events")
	}
	if !slices.Equal([]int{api.MaxName, api.MaxStart, api.MaxLine, api.MaxText}, []int{32, maxStart, maxLine, maxText}) {
		t.Error("the limits")
	}
	if !slices.Equal([]api.Errno{api.OK, api.ErrArg, api.ErrLong, api.ErrForm, api.ErrWord, api.ErrName, api.ErrType, api.ErrReturn}, []api.Errno{0, 2, 4, 5, 6, 7, 8, 9}) {
		t.Error("the errors")
	}
}

// P12.1: Check and Line.

func TestKinds(t *testing.T) {
	for i, line := range []string{"object a set 1 2", "begin t", "op t a insert 5 -> 1", "commit t", "abort t"} {
		accept(t, one()[i], line)
	}
}

// TestNoKinds: a kind that is none is told ahead of all else that is wrong.
func TestNoKinds(t *testing.T) {
	for _, kind := range noKinds() {
		for _, e := range one() {
			e.Kind = kind
			refuse(t, e, api.ErrWord)
			e.Name, e.Object = "T", "A"
			refuse(t, e, api.ErrWord)
			e.First, e.Op = first(6, 1), pair(16, 1, 1, told(1))
			refuse(t, e, api.ErrWord)
		}
		refuse(t, api.Event{Kind: kind}, api.ErrWord)
	}
}

// part is one field of an event, set by itself.
type part struct {
	field string
	set   func(e *api.Event, n int)
}

// stateParts and otherParts are all fields of an event but its Kind and its Name.
func stateParts() []part {
	return []part{
		{"First.Type", func(e *api.Event, n int) { e.First.Type = n }},
		{"First.N", func(e *api.Event, n int) { e.First.N = n }},
		{"First.L", func(e *api.Event, n int) { e.First.L = []int{n} }},
	}
}

func opParts() []part {
	return []part{
		{"Op.Kind", func(e *api.Event, n int) { e.Op.Kind = n }},
		{"Op.A", func(e *api.Event, n int) { e.Op.A = n }},
		{"Op.B", func(e *api.Event, n int) { e.Op.B = n }},
		{"Op.Ret.Kind", func(e *api.Event, n int) { e.Op.Ret.Kind = n }},
		{"Op.Ret.N", func(e *api.Event, n int) { e.Op.Ret.N = n }},
	}
}

func objectPart() part {
	return part{"Object", func(e *api.Event, n int) { e.Object = "a" + strings.Repeat("b", n&31) }}
}

// notNamed are the fields that are not named of an event's kind.
func notNamed(kind int) []part {
	switch kind {
	case objects:
		return append(opParts(), objectPart())
	case ops:
		return stateParts()
	}
	return append(append(stateParts(), opParts()...), objectPart())
}

// TestNotNamed: each field that is not named of a kind, set by itself, is told ahead of a name that is none, and of what is wrong with the rest.
func TestNotNamed(t *testing.T) {
	for _, whole := range one() {
		for _, p := range notNamed(whole.Kind) {
			for _, n := range edges() {
				if n == 0 && p.field != "First.L" && p.field != "Object" {
					continue
				}
				e := whole
				p.set(&e, n)
				refuse(t, e, api.ErrArg)
				e.Name = ""
				refuse(t, e, api.ErrArg)
				if e.Name = "T"; e.Kind == ops {
					e.Object, e.Op.Kind = "A", 16
				}
				if e.Kind == objects {
					e.First.Type = 6
				}
				refuse(t, e, api.ErrArg)
			}
		}
	}
	// A list without a number is empty, whatever room it has.
	for _, e := range one()[1:] {
		line, _ := lined(e)
		e.First.L = []int{}
		accept(t, e, line)
		e.First.L = []int{7, 8}[:0]
		accept(t, e, line)
	}
}

// TestObjectNotNamed: an Object that is no name is told as one that should not be there.
func TestObjectNotNamed(t *testing.T) {
	for _, name := range slices.Concat(someNames(), noNames()) {
		for _, e := range one() {
			if e.Kind == ops || name == "" {
				continue
			}
			e.Object = name
			refuse(t, e, api.ErrArg)
		}
	}
}

func TestNames(t *testing.T) {
	for _, name := range someNames() {
		accept(t, begin(name), "begin "+name)
		accept(t, commit(name), "commit "+name)
		accept(t, abort(name), "abort "+name)
		accept(t, object(name, tally(-5)), "object "+name+" counter -5")
		for _, other := range someNames() {
			accept(t, op(name, other, pair(1, -7, 0, done())), "op "+name+" "+other+" add -7 -> ok")
		}
	}
}

// TestNoNames: a name that is none is told ahead of what is wrong with the state, or the operation.
func TestNoNames(t *testing.T) {
	for _, name := range noNames() {
		for _, e := range one() {
			e.Name = name
			refuse(t, e, api.ErrName)
		}
		refuse(t, object(name, first(6)), api.ErrName)
		refuse(t, object(name, first(2, 2, 1)), api.ErrName)
		refuse(t, object(name, first(4, make([]int, 1001)...)), api.ErrName)
		refuse(t, op("t", name, pair(3, 5, 0, told(1))), api.ErrName)
		refuse(t, op(name, name, pair(3, 5, 0, told(1))), api.ErrName)
		refuse(t, op("t", name, pair(16, 0, 0, done())), api.ErrName)
		refuse(t, op(name, "a", pair(3, 5, 0, told(2))), api.ErrName)
		refuse(t, op("t", name, pair(13, -1, 0, told(1))), api.ErrName)
	}
}

// rising are numbers from n on, each one more.
func rising(n, count int) []int {
	l := make([]int, count)
	for i := range l {
		l[i] = n + i
	}
	return l
}

func TestFirst(t *testing.T) {
	for _, x := range []struct {
		s    api.State
		text string
	}{
		{tally(0), "counter 0"}, {tally(least), "counter -9223372036854775808"}, {tally(greatest), "counter 9223372036854775807"},
		{first(2), "set"}, {first(2, -5, 3), "set -5 3"}, {first(3), "map"}, {first(3, 1, 10, 2, 20), "map 1 10 2 20"}, {first(4), "queue"}, {first(4, 7, 7, -1), "queue 7 7 -1"},
		{account(0), "escrow 0"}, {account(most), "escrow 4611686018427387904"},
	} {
		accept(t, object("a", x.s), "object a "+x.text)
	}
}

func TestFirstWrong(t *testing.T) {
	for _, kind := range []int{0, 6, -1, 7, 255, 257, greatest, least} {
		refuse(t, object("a", first(kind)), api.ErrType)
		refuse(t, object("a", first(kind, 1, 2)), api.ErrType)
		refuse(t, object("a", first(kind, make([]int, 1001)...)), api.ErrType)
	}
	for _, s := range []api.State{
		first(1, 1), first(2, 1, 1), first(2, 2, 1), {Type: 2, N: 1}, first(3, 1), first(3, 1, 2, 1, 3), {Type: 3, N: -1}, {Type: 4, N: 1, L: []int{1}}, account(-1), account(most + 1), first(5, 0),
	} {
		refuse(t, object("a", s), api.ErrForm)
	}
}

// TestFirstLong: the most numbers that may be, and one more; a state that is not in its form is told ahead of too many numbers.
func TestFirstLong(t *testing.T) {
	for kind := 2; kind <= 4; kind++ {
		l := rising(-500, 1002)
		for _, count := range []int{999, 1000, 1001, 1002} {
			e := object("a", first(kind, l[:count]...))
			switch {
			case kind == 3 && count&1 > 0:
				refuse(t, e, api.ErrForm)
			case count > 1000:
				refuse(t, e, api.ErrLong)
			default:
				line, _ := lined(e)
				accept(t, e, line)
			}
		}
	}
	for kind := 1; kind <= 5; kind++ {
		if kind != 4 {
			refuse(t, object("a", first(kind, make([]int, 1001)...)), api.ErrForm)
			refuse(t, object("a", first(kind, make([]int, 1002)...)), api.ErrForm)
		}
		refuse(t, object("a", api.State{Type: kind, N: -1, L: rising(0, 1002)}), api.ErrForm)
	}
}

func TestOps(t *testing.T) {
	for _, x := range []struct {
		o    api.Op
		text string
	}{
		{pair(1, 5, 0, done()), "add 5 -> ok"}, {pair(2, 0, 0, told(-3)), "read -> -3"},
		{pair(3, 5, 0, told(1)), "insert 5 -> 1"}, {pair(4, -5, 0, told(0)), "remove -5 -> 0"}, {pair(5, 0, 0, told(0)), "has 0 -> 0"}, {pair(6, 0, 0, told(3)), "size -> 3"},
		{pair(7, 1, 10, nothing()), "put 1 10 -> none"}, {pair(8, 1, 0, told(-1)), "get 1 -> -1"}, {pair(9, least, 0, nothing()), "del -9223372036854775808 -> none"},
		{pair(10, greatest, 0, done()), "enq 9223372036854775807 -> ok"}, {pair(11, 0, 0, nothing()), "deq -> none"}, {pair(12, 0, 0, told(0)), "len -> 0"},
		{pair(13, 0, 0, told(1)), "deposit 0 -> 1"}, {pair(14, most, 0, told(0)), "withdraw 4611686018427387904 -> 0"}, {pair(15, 0, 0, told(most)), "balance -> 4611686018427387904"},
	} {
		accept(t, op("t", "a", x.o), "op t a "+x.text)
	}
}

// TestOpsWrong: what operation.Check refuses, with its error.
func TestOpsWrong(t *testing.T) {
	for _, kind := range []int{0, 16, -1, 17, 255, 257, greatest, least} {
		refuse(t, op("t", "a", pair(kind, 0, 0, done())), api.ErrWord)
		refuse(t, op("t", "a", pair(kind, 1, 1, told(1))), api.ErrWord)
	}
	for _, o := range []api.Op{pair(6, 1, 0, told(3)), pair(3, 5, 1, told(1)), pair(13, -1, 0, told(1)), pair(14, most+1, 0, told(2)), pair(2, 0, 1, done())} {
		refuse(t, op("t", "a", o), api.ErrArg)
	}
	for _, o := range []api.Op{pair(3, 5, 0, told(2)), pair(1, 5, 0, told(1)), pair(2, 0, 0, done()), pair(7, 1, 2, done()), pair(11, 0, 0, api.Ret{Kind: 1, N: 1}), pair(15, 0, 0, told(-1)), pair(12, 0, 0, told(most+1)), pair(10, 1, 0, api.Ret{Kind: 3})} {
		refuse(t, op("t", "a", o), api.ErrReturn)
	}
}

// TestOpsEverywhere holds operations of each kind, and of none, against the chapter's words at all edges together.
func TestOpsEverywhere(t *testing.T) {
	rets := []api.Ret{done(), nothing(), told(0), told(1), told(2), told(-1), told(most), told(most + 1), {Kind: 0, N: 1}, {Kind: 1, N: 1}, {Kind: 3}, {Kind: -1}}
	for kind := -1; kind <= 17; kind++ {
		for _, a := range edges() {
			for _, b := range []int{0, 1, least} {
				for _, r := range rets {
					hold(t, op("t", "a", pair(kind, a, b, r)))
				}
			}
		}
	}
}

// TestCheckDrawn holds drawn events, most of them with one thing or two that may not be, against the chapter's words.
func TestCheckDrawn(t *testing.T) {
	d := drawer(1)
	counts := map[api.Errno]int{}
	for range 40000 {
		e := wrongEvent(&d)
		counts[grammar.Check(e)]++
		hold(t, e)
	}
	for _, err := range []api.Errno{api.OK, api.ErrArg, api.ErrForm, api.ErrWord, api.ErrName, api.ErrType, api.ErrReturn, api.ErrLong} {
		if counts[err] < 50 {
			t.Error("the test itself is wrong:", counts)
		}
	}
}

// wrongEvent draws an event, in which up to two things are then changed, to something that may be or not.
func wrongEvent(d *drawer) api.Event {
	e := event(d)
	parts := append(append(stateParts(), opParts()...), objectPart(),
		part{"Kind", func(e *api.Event, n int) { e.Kind = n }},
		part{"Name", func(e *api.Event, n int) { e.Name = pick(d, noNames()) }},
		part{"Object", func(e *api.Event, n int) { e.Object = pick(d, noNames()) }},
		part{"First", func(e *api.Event, n int) { e.First.L = rising(n, 1000+n&3) }})
	for range d.below(3) {
		pick(d, parts).set(&e, d.below(20)-2)
	}
	return e
}

// event draws an event that may be.
func event(d *drawer) api.Event {
	switch kind := 1 + d.below(5); kind {
	case objects:
		return object(pick(d, someNames()), start(d))
	case ops:
		return op(pick(d, someNames()), pick(d, someNames()), act(d))
	default:
		return api.Event{Kind: kind, Name: pick(d, someNames())}
	}
}

// start draws a state in its form.
func start(d *drawer) api.State {
	s := api.State{Type: 1 + d.below(5)}
	if s.Type == 1 {
		s.N = pick(d, edges())
		return s
	}
	if s.Type == 5 {
		s.N = max(0, min(most, pick(d, edges())))
		return s
	}
	for range d.below(6) {
		s.L = append(s.L, pick(d, edges()))
	}
	if s.Type != 4 {
		slices.Sort(s.L)
		s.L = slices.Compact(s.L)
	}
	if s.Type == 3 {
		s.L = s.L[:len(s.L)&^1]
	}
	return s
}

// act draws an operation that may be.
func act(d *drawer) api.Op {
	o := api.Op{Kind: 1 + d.below(15)}
	capped := func() int { return max(0, min(most, pick(d, edges()))) }
	switch o.Kind {
	case 1, 10:
		o.A = pick(d, edges())
	case 2:
		o.Ret = told(pick(d, edges()))
	case 3, 4, 5:
		o.A, o.Ret = pick(d, edges()), told(d.below(2))
	case 6, 12, 15:
		o.Ret = told(capped())
	case 13, 14:
		o.A, o.Ret = capped(), told(d.below(2))
	case 7, 8, 9:
		o.A, o.Ret = pick(d, edges()), nothing()
	default:
		o.Ret = nothing()
	}
	if o.Kind == 7 {
		o.B = pick(d, edges())
	}
	if o.Ret == nothing() && d.below(2) > 0 {
		o.Ret = told(pick(d, edges()))
	}
	return o
}
