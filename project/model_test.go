package project_test

import (
	"math"
	"slices"
	"strconv"
	"strings"
	"testing"

	"armistice/api"
	"armistice/grammar"
	"armistice/history"
	"armistice/names"
	"armistice/operation"
	"armistice/project"
	"armistice/state"
)

// The calls must keep the chapter's signatures.
var (
	_ func([]api.Event) (api.Case, api.Fault) = project.Make
	_ func(api.Case) api.Errno                = project.Check
	_ func(api.Case) (api.Case, api.Errno)    = project.Dense
	_ func(api.Case) ([]api.Event, api.Errno) = project.Back
	_ func(api.Case) (int, int)               = project.Size
)

// The numbers of DOC.md that are used here.
const (
	maxObjects = 256
	maxTrans   = 4096
	maxOps     = 1 << 20
	maxStart   = 1000
	most       = 1 << 62
	greatest   = math.MaxInt
	least      = math.MinInt
)

// The kinds of events, by the words of their lines.
const (
	objects = 1
	begins  = 2
	ops     = 3
	commits = 4
	aborts  = 5
)

func first(kind int, l ...int) api.State { return api.State{Type: kind, L: l} }
func told(n int) api.Ret                 { return api.Ret{Kind: 2, N: n} }

func object(name string, s api.State) api.Event {
	return api.Event{Kind: objects, Name: name, First: s}
}
func begin(name string) api.Event  { return api.Event{Kind: begins, Name: name} }
func commit(name string) api.Event { return api.Event{Kind: commits, Name: name} }
func abort(name string) api.Event  { return api.Event{Kind: aborts, Name: name} }
func op(name, object string, kind int) api.Event {
	return api.Event{Kind: ops, Name: name, Object: object, Op: done(kind)}
}

func fault(e api.Errno, at int) api.Fault { return api.Fault{Err: e, At: at} }

// done is an operation of a kind that may be.
func done(kind int) api.Op {
	o := api.Op{Kind: kind, Ret: told(1)}
	if kind == 1 || kind == 10 {
		o.Ret = api.Ret{}
	}
	return o
}

func act(object, kind int) api.Act { return api.Act{Object: object, Op: done(kind)} }

// typeOf is a kind's type, as DOC.md numbers both: of the kinds from 1 on two are a counter's, and so on.
func typeOf(kind int) int {
	return []int{0, 1, 1, 2, 2, 2, 2, 3, 3, 3, 4, 4, 4, 5, 5, 5}[kind]
}

// kindOf is a kind of a type.
func kindOf(object int) int { return []int{0, 1, 3, 7, 10, 13}[object] }

// events reads events, a line each, parted by semicolons.
func events(t testing.TB, s string) []api.Event {
	t.Helper()
	l, f := grammar.Parse([]byte(strings.ReplaceAll(s, "; ", "\n")))
	if f.Err != api.OK {
		t.Fatalf("the test itself is wrong: %s: %v", s, f)
	}
	return l
}

// world are an object of each type, told by the first letter of its word.
func world() string {
	return "object c counter 5; object s set 1 2; object m map 1 10; object q queue 7 7 1; object e escrow 5"
}

// whole is a history of all kinds of events, with transactions that commit, abort and never end, one among the other.
func whole(t testing.TB) []api.Event {
	t.Helper()
	return events(t, world()+"; begin t; begin u; begin x; op u s insert 3 -> 1; op t c add 1 -> ok; op x c add 9 -> ok; commit u; abort x; begin c; op t q deq -> 7; commit c; begin v; op v m get 1 -> 10; op t e withdraw 2 -> 1; begin w; op w c read -> 6; commit t; commit w")
}

// wholeCase is the case of whole, by hand.
func wholeCase() api.Case {
	one := func(object int, o api.Op) api.Act { return api.Act{Object: object, Op: o} }
	return api.Case{
		Names: []string{"c", "s", "m", "q", "e"},
		First: []api.State{{Type: 1, N: 5}, first(2, 1, 2), first(3, 1, 10), first(4, 7, 7, 1), {Type: 5, N: 5}},
		Trans: []api.Trans{
			{Name: "t", Begin: 5, Commit: 21, At: []int{9, 14, 18}, Acts: []api.Act{one(0, api.Op{Kind: 1, A: 1}), one(3, api.Op{Kind: 11, Ret: told(7)}), one(4, api.Op{Kind: 14, A: 2, Ret: told(1)})}},
			{Name: "u", Begin: 6, Commit: 11, At: []int{8}, Acts: []api.Act{one(1, api.Op{Kind: 3, A: 3, Ret: told(1)})}},
			{Name: "c", Begin: 13, Commit: 15},
			{Name: "w", Begin: 19, Commit: 22, At: []int{20}, Acts: []api.Act{one(0, api.Op{Kind: 2, Ret: told(6)})}},
		},
	}
}

// asked is the case of events that may be, in the chapter's words.
func asked(l []api.Event) api.Case {
	var c api.Case
	number, end := map[string]int{}, map[string]int{}
	for i, e := range l {
		switch e.Kind {
		case objects:
			number[e.Name] = len(c.Names)
			c.Names, c.First = append(c.Names, e.Name), append(c.First, e.First)
		case commits:
			end[e.Name] = i
		}
	}
	stands := map[string]int{}
	for i, e := range l {
		last, is := end[e.Name]
		switch {
		case is && e.Kind == begins:
			stands[e.Name] = len(c.Trans)
			c.Trans = append(c.Trans, api.Trans{Name: e.Name, Begin: i, Commit: last})
		case is && e.Kind == ops:
			t := &c.Trans[stands[e.Name]]
			t.Acts, t.At = append(t.Acts, api.Act{Object: number[e.Object], Op: e.Op}), append(t.At, i)
		}
	}
	return c
}

// spread are a transaction's places, in the order in which they must rise.
func spread(t api.Trans) []int { return slices.Concat([]int{t.Begin}, t.At, []int{t.Commit}) }

// rising tells whether each number is greater than the one ahead.
func rising(l []int) bool {
	return slices.IsSorted(l) && len(slices.Compact(slices.Clone(l))) == len(l)
}

// ordered are a case's places, in order.
func ordered(c api.Case) []int {
	var l []int
	for _, t := range c.Trans {
		l = append(l, spread(t)...)
	}
	slices.Sort(l)
	return l
}

// wrong is what the chapter says against a case.
func wrong(c api.Case) api.Errno {
	if _, acts := size(c); len(c.Names) > maxObjects || len(c.Trans) > maxTrans || acts > maxOps {
		return api.ErrLong
	}
	if len(c.First) != len(c.Names) {
		return api.ErrArg
	}
	for i, name := range c.Names {
		if err := names.Check(name); err != api.OK {
			return err
		}
		if slices.Contains(c.Names[:i], name) {
			return api.ErrExists
		}
		if err := state.Check(c.First[i]); err != api.OK {
			return err
		}
		if len(c.First[i].L) > maxStart {
			return api.ErrLong
		}
	}
	seen := map[string]int{}
	for i, t := range c.Trans {
		seen[t.Name]++
		if err := names.Check(t.Name); err != api.OK {
			return err
		}
		if seen[t.Name] > 1 {
			return api.ErrExists
		}
		if len(t.At) != len(t.Acts) {
			return api.ErrArg
		}
		if t.Begin < 0 || i > 0 && t.Begin <= c.Trans[i-1].Begin || !rising(spread(t)) {
			return api.ErrOrder
		}
		for _, a := range t.Acts {
			if err := wrongAct(a, c.First); err != api.OK {
				return err
			}
		}
	}
	if !rising(ordered(c)) {
		return api.ErrOrder
	}
	return api.OK
}

// wrongAct is what the chapter says against an operation on one of these objects.
func wrongAct(a api.Act, l []api.State) api.Errno {
	if a.Object < 0 || a.Object >= len(l) {
		return api.ErrRange
	}
	if err := operation.Check(a.Op); err != api.OK {
		return err
	}
	if typeOf(a.Op.Kind) != l[a.Object].Type {
		return api.ErrType
	}
	return api.OK
}

func size(c api.Case) (trans, acts int) {
	for _, t := range c.Trans {
		trans, acts = trans+1, acts+len(t.Acts)
	}
	return trans, acts
}

// dense is a case that may be, made dense in the chapter's words.
func dense(c api.Case) api.Case {
	less := map[int]int{}
	for n, place := range ordered(c) {
		less[place] = n
	}
	d := deepCase(c)
	for i := range d.Trans {
		t := &d.Trans[i]
		t.Begin, t.Commit = len(c.Names)+less[t.Begin], len(c.Names)+less[t.Commit]
		for k := range t.At {
			t.At[k] = len(c.Names) + less[t.At[k]]
		}
	}
	return d
}

// back are the events of a case that may be.
func back(c api.Case) []api.Event {
	var l []api.Event
	for i, name := range c.Names {
		l = append(l, object(name, c.First[i]))
	}
	stands := map[int]api.Event{}
	for _, t := range c.Trans {
		stands[t.Begin], stands[t.Commit] = begin(t.Name), commit(t.Name)
		for i, a := range t.Acts {
			stands[t.At[i]] = api.Event{Kind: ops, Name: t.Name, Object: c.Names[a.Object], Op: a.Op}
		}
	}
	for _, place := range ordered(c) {
		l = append(l, stands[place])
	}
	return l
}

// alike tells whether two cases are the same, nil and empty being so.
func alike(a, b api.Case) bool {
	return slices.Equal(a.Names, b.Names) && slices.EqualFunc(a.First, b.First, sameState) && slices.EqualFunc(a.Trans, b.Trans, func(x, y api.Trans) bool {
		return x.Name == y.Name && x.Begin == y.Begin && x.Commit == y.Commit && slices.Equal(x.Acts, y.Acts) && slices.Equal(x.At, y.At)
	})
}

func sameState(a, b api.State) bool {
	return a.Type == b.Type && a.N == b.N && slices.Equal(a.L, b.L)
}

// alikeEvents tells whether two lists of events are the same, nil and empty being so.
func alikeEvents(a, b []api.Event) bool {
	return slices.EqualFunc(a, b, func(x, y api.Event) bool {
		return x.Kind == y.Kind && x.Name == y.Name && x.Object == y.Object && x.Op == y.Op && sameState(x.First, y.First)
	})
}

// deepCase is a copy of a case that shares no list with it.
func deepCase(c api.Case) api.Case {
	c = api.Case{Names: slices.Clone(c.Names), First: slices.Clone(c.First), Trans: slices.Clone(c.Trans)}
	for i := range c.First {
		c.First[i].L = slices.Clone(c.First[i].L)
	}
	for i := range c.Trans {
		c.Trans[i].Acts, c.Trans[i].At = slices.Clone(c.Trans[i].Acts), slices.Clone(c.Trans[i].At)
	}
	return c
}

// deepEvents is a copy of events that shares no list with them.
func deepEvents(l []api.Event) []api.Event {
	l = slices.Clone(l)
	for i := range l {
		l[i].First.L = slices.Clone(l[i].First.L)
	}
	return l
}

// made is the case that Make tells of a history, held against the chapter's words.
func made(t testing.TB, l []api.Event) api.Case {
	t.Helper()
	c, f := project.Make(l)
	if want := asked(l); f != (api.Fault{}) || !alike(c, want) {
		t.Fatalf("Make(%s): %s, %v; want %s", text(l), show(c), f, show(want))
	}
	return c
}

// refuse holds that Make tells of events just a fault, which is history.Check's.
func refuse(t testing.TB, l []api.Event, err api.Errno, at int) {
	t.Helper()
	c, f := project.Make(l)
	if f != fault(err, at) || !alike(c, api.Case{}) {
		t.Errorf("Make(%s): %s, %v; want %v", text(l), show(c), f, fault(err, at))
	}
	if f != history.Check(l) {
		t.Errorf("Make(%s): %v; history.Check %v", text(l), f, history.Check(l))
	}
}

// holdEvents holds what Make tells of whatever events.
func holdEvents(t testing.TB, l []api.Event) {
	t.Helper()
	if f := history.Check(l); f.Err != api.OK {
		refuse(t, l, f.Err, f.At)
		return
	}
	accept(t, made(t, l))
}

// reject holds that a case may not be, so that Dense and Back tell nothing else.
func reject(t testing.TB, c api.Case, want api.Errno) {
	t.Helper()
	if err := project.Check(c); err != want {
		t.Errorf("Check(%s): %v; want %v", show(c), err, want)
	}
	if d, err := project.Dense(c); err != want || !alike(d, api.Case{}) {
		t.Errorf("Dense(%s): %s, %v; want %v", show(c), show(d), err, want)
	}
	if l, err := project.Back(c); err != want || len(l) != 0 {
		t.Errorf("Back(%s): %s, %v; want %v", show(c), text(l), err, want)
	}
	expectSize(t, c)
}

// accept holds that a case may be, and what is told of it.
func accept(t testing.TB, c api.Case) {
	t.Helper()
	if err := project.Check(c); err != api.OK {
		t.Errorf("Check(%s): %v", show(c), err)
	}
	if d, err := project.Dense(c); err != api.OK || !alike(d, dense(c)) {
		t.Errorf("Dense(%s): %s, %v; want %s", show(c), show(d), err, show(dense(c)))
	}
	if l, err := project.Back(c); err != api.OK || !alikeEvents(l, back(c)) {
		t.Errorf("Back(%s): %s, %v; want %s", show(c), text(l), err, text(back(c)))
	}
	expectSize(t, c)
}

// hold holds a case against the chapter's words.
func hold(t testing.TB, c api.Case) {
	t.Helper()
	if err := wrong(c); err != api.OK {
		reject(t, c, err)
		return
	}
	accept(t, c)
}

func expectSize(t testing.TB, c api.Case) {
	t.Helper()
	trans, acts := size(c)
	if n, m := project.Size(c); n != trans || m != acts {
		t.Errorf("Size(%s): %d, %d; want %d, %d", show(c), n, m, trans, acts)
	}
}

// text tells events for who reads a test's failure.
func text(l []api.Event) string {
	var lines []string
	for _, e := range l[max(0, len(l)-30):] {
		line, err := grammar.Line(e)
		if err != api.OK {
			line = "(kind " + strconv.Itoa(e.Kind) + ": " + err.Error() + ")"
		}
		lines = append(lines, line[:min(len(line), 60)])
	}
	return strconv.Itoa(len(l)) + " events, at last " + strings.Join(lines, "; ")
}

// show tells a case for who reads a test's failure.
func show(c api.Case) string {
	trans, acts := size(c)
	s := strconv.Itoa(len(c.Names)) + " names, " + strconv.Itoa(len(c.First)) + " states, " + strconv.Itoa(trans) + " transactions, " + strconv.Itoa(acts) + " acts:"
	for _, t := range c.Trans[:min(len(c.Trans), 8)] {
		s += " " + strconv.Quote(t.Name[:min(len(t.Name), 40)]) + " from " + strconv.Itoa(t.Begin) + " to " + strconv.Itoa(t.Commit) + " at"
		for i, place := range t.At[:min(len(t.At), 8)] {
			s += " " + strconv.Itoa(place)
			if i < len(t.Acts) {
				s += " (" + strconv.Itoa(t.Acts[i].Object) + ": " + strconv.Itoa(t.Acts[i].Op.Kind) + ")"
			}
		}
		s += ";"
	}
	return s
}
