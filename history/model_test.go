package history_test

import (
	"math"
	"slices"
	"strconv"
	"strings"
	"testing"

	"armistice/api"
	"armistice/grammar"
	"armistice/history"
)

// The calls must keep the chapter's signatures.
var (
	_ func([]api.Event) api.Fault                  = history.Check
	_ func([]api.Event) ([]api.Life, api.Fault)    = history.Lives
	_ func([]api.Event) ([]string, api.Fault)      = history.Objects
	_ func() *history.Desk                         = history.New
	_ func(*history.Desk, api.Event) api.Errno     = (*history.Desk).Add
	_ func(*history.Desk) int                      = (*history.Desk).Len
	_ func(*history.Desk) []string                 = (*history.Desk).Running
	_ func(*history.Desk, string) (api.Life, bool) = (*history.Desk).Life
)

// The numbers of DOC.md that are used here.
const (
	maxObjects = 256
	maxTrans   = 4096
	maxOps     = 1 << 20
	most       = 1 << 62
	greatest   = math.MaxInt
	least      = math.MinInt
)

// The kinds of events, by the words of their lines.
const (
	objects = 1
	begins  = 2
	ops     = 3
	commits = 4
	aborts  = 5
)

func first(kind int, l ...int) api.State { return api.State{Type: kind, L: l} }
func told(n int) api.Ret                 { return api.Ret{Kind: 2, N: n} }

func object(name string, s api.State) api.Event {
	return api.Event{Kind: objects, Name: name, First: s}
}
func begin(name string) api.Event  { return api.Event{Kind: begins, Name: name} }
func commit(name string) api.Event { return api.Event{Kind: commits, Name: name} }
func abort(name string) api.Event  { return api.Event{Kind: aborts, Name: name} }
func op(name, object string, kind int) api.Event {
	return api.Event{Kind: ops, Name: name, Object: object, Op: act(kind)}
}

func fault(e api.Errno, at int) api.Fault { return api.Fault{Err: e, At: at} }

// act is an operation of a kind that may be.
func act(kind int) api.Op {
	o := api.Op{Kind: kind, Ret: told(1)}
	if kind == 1 || kind == 10 {
		o.Ret = api.Ret{}
	}
	return o
}

// typeOf is a kind's type, as DOC.md numbers both: of the kinds from 1 on two are a counter's, and so on.
func typeOf(kind int) int {
	return []int{0, 1, 1, 2, 2, 2, 2, 3, 3, 3, 4, 4, 4, 5, 5, 5}[kind]
}

// events reads events, a line each, parted by semicolons.
func events(t testing.TB, s string) []api.Event {
	t.Helper()
	l, f := grammar.Parse([]byte(strings.ReplaceAll(s, "; ", "\n")))
	if f.Err != api.OK {
		t.Fatalf("the test itself is wrong: %s: %v", s, f)
	}
	return l
}

// world are an object of each type, told by the first letter of its word.
func world() string {
	return "object c counter 1; object s set 1 2; object m map; object q queue 7; object e escrow 5"
}

// why is what the chapter says against an event behind those of l, each of which follows.
func why(l []api.Event, e api.Event) api.Errno {
	if err := grammar.Check(e); err != api.OK {
		return err
	}
	kind := func(kind int) int {
		n := 0
		for i := range l {
			if l[i].Kind == kind {
				n++
			}
		}
		return n
	}
	has := func(name string, kinds ...int) bool {
		for i := range l {
			if l[i].Name == name && slices.Contains(kinds, l[i].Kind) {
				return true
			}
		}
		return false
	}
	switch {
	case e.Kind == objects && kind(objects) < len(l):
		return api.ErrOrder
	case e.Kind == objects && has(e.Name, objects), e.Kind == begins && has(e.Name, begins):
		return api.ErrExists
	case e.Kind == objects && len(l) >= maxObjects, e.Kind == begins && kind(begins) >= maxTrans:
		return api.ErrLong
	case e.Kind == objects, e.Kind == begins:
		return api.OK
	case !has(e.Name, begins):
		return api.ErrUnknown
	case has(e.Name, commits, aborts):
		return api.ErrOrder
	case e.Kind != ops:
		return api.OK
	}
	at := slices.IndexFunc(l, func(x api.Event) bool { return x.Kind == objects && x.Name == e.Object })
	switch {
	case at < 0:
		return api.ErrUnknown
	case l[at].First.Type != typeOf(e.Op.Kind):
		return api.ErrType
	case kind(ops) >= maxOps:
		return api.ErrLong
	}
	return api.OK
}

// wrong is what Check must answer of events.
func wrong(l []api.Event) api.Fault {
	for at, e := range l {
		if err := why(l[:at], e); err != api.OK {
			return fault(err, at)
		}
	}
	return api.Fault{}
}

// life is what must be told of a name, of events that follow one another.
func life(l []api.Event, name string) (api.Life, bool) {
	at := slices.IndexFunc(l, func(x api.Event) bool { return x.Kind == begins && x.Name == name })
	if at < 0 {
		return api.Life{}, false
	}
	x := api.Life{Name: name, Begin: at, End: -1}
	for i, e := range l {
		switch {
		case e.Name != name:
		case e.Kind == ops:
			x.Ops++
		case e.Kind == commits, e.Kind == aborts:
			x.End, x.Committed = i, e.Kind == commits
		}
	}
	return x, true
}

// named are the names of all events of a kind, in their order.
func named(l []api.Event, kind int) []string {
	var names []string
	for _, e := range l {
		if e.Kind == kind {
			names = append(names, e.Name)
		}
	}
	return names
}

// lived are the lives that must be told of events that follow one another, and the names of those that run.
func lived(l []api.Event) (lives []api.Life, running []string) {
	at := map[string]int{}
	for i, e := range l {
		switch e.Kind {
		case begins:
			at[e.Name] = len(lives)
			lives = append(lives, api.Life{Name: e.Name, Begin: i, End: -1})
		case ops:
			lives[at[e.Name]].Ops++
		case commits, aborts:
			x := &lives[at[e.Name]]
			x.End, x.Committed = i, e.Kind == commits
		}
	}
	for _, x := range lives {
		if x.End < 0 {
			running = append(running, x.Name)
		}
	}
	return lives, running
}

// expect holds what Check, Lives and Objects answer of events.
func expect(t testing.TB, l []api.Event, lives []api.Life, names []string, want api.Fault) {
	t.Helper()
	if f := history.Check(l); f != want {
		t.Errorf("Check(%s): %v; want %v", text(l), f, want)
	}
	if got, f := history.Lives(l); !slices.Equal(got, lives) || f != want {
		t.Errorf("Lives(%s): %.200v, %v; want %.200v, %v", text(l), got, f, lives, want)
	}
	if got, f := history.Objects(l); !slices.Equal(got, names) || f != want {
		t.Errorf("Objects(%s): %.200v, %v; want %.200v, %v", text(l), got, f, names, want)
	}
}

// refuse holds that the event at that number may not follow, so that nothing else is told.
func refuse(t testing.TB, l []api.Event, err api.Errno, at int) {
	t.Helper()
	expect(t, l, nil, nil, fault(err, at))
}

// refuseLast holds that the last event may not follow, but those ahead of it are a history; of a desk, too.
func refuseLast(t testing.TB, l []api.Event, err api.Errno) {
	t.Helper()
	accept(t, l[:len(l)-1])
	refuse(t, l, err, len(l)-1)
	d := laid(t, l[:len(l)-1])
	expectRefused(t, d, l[:len(l)-1], l[len(l)-1], err)
}

// accept holds that events are a history, and what is told of it.
func accept(t testing.TB, l []api.Event) {
	t.Helper()
	lives, _ := lived(l)
	expect(t, l, lives, named(l, objects), api.Fault{})
}

// hold holds events against the chapter's words.
func hold(t testing.TB, l []api.Event) {
	t.Helper()
	if f := wrong(l); f.Err != api.OK {
		refuse(t, l, f.Err, f.At)
		return
	}
	accept(t, l)
}

// laid is a desk that has taken events.
func laid(t testing.TB, l []api.Event) *history.Desk {
	t.Helper()
	d := history.New()
	for at, e := range l {
		if err := d.Add(e); err != api.OK {
			t.Fatalf("Add of %d of %s: %v", at, text(l), err)
		}
	}
	return d
}

// strangers are names, few of which begin anywhere here, and texts that are none.
var strangers = []string{"", "c", "s", "nobody", "T", " t", "t ", "t\n", "\x00", "\xff", strings.Repeat("t", 32), strings.Repeat("t", 33), strings.Repeat("t", 1<<16)}

// expectDesk holds what a desk tells that has taken these events.
func expectDesk(t testing.TB, d *history.Desk, l []api.Event) {
	t.Helper()
	if d.Len() != len(l) {
		t.Errorf("%s: Len %d; want %d", text(l), d.Len(), len(l))
	}
	lives, running := lived(l)
	if got := d.Running(); !slices.Equal(got, running) {
		t.Errorf("%s: Running %v; want %v", text(l), got, running)
	}
	for _, want := range lives {
		if got, is := d.Life(want.Name); got != want || !is {
			t.Errorf("%s: Life(%s) %v, %v; want %v", text(l), want.Name, got, is, want)
		}
	}
	for _, name := range slices.Concat(strangers, named(l, objects)) {
		want, began := life(l, name)
		if got, is := d.Life(name); got != want || is != began {
			t.Errorf("%s: Life(%.40q) %v, %v; want %v, %v", text(l), name, got, is, want, began)
		}
	}
}

// expectRefused holds that a desk that has taken these events refuses one, and tells what it told.
func expectRefused(t testing.TB, d *history.Desk, l []api.Event, e api.Event, err api.Errno) {
	t.Helper()
	if got := d.Add(e); got != err {
		t.Errorf("%s: Add(%s): %v; want %v", text(l), text([]api.Event{e}), got, err)
	}
	expectDesk(t, d, l)
}

// text tells events for who reads a test's failure.
func text(l []api.Event) string {
	var lines []string
	for _, e := range l[max(0, len(l)-30):] {
		line, err := grammar.Line(e)
		if err != api.OK {
			line = "(kind " + strconv.Itoa(e.Kind) + ": " + err.Error() + ")"
		}
		lines = append(lines, line[:min(len(line), 60)])
	}
	return strconv.Itoa(len(l)) + " events, at last " + strings.Join(lines, "; ")
}

// drawer draws numbers that are the same in each run.
type drawer uint64

// below draws a number from 0 on that is less than n.
func (d *drawer) below(n int) int {
	*d = *d*6364136223846793005 + 1442695040888963407
	return int(uint64(*d)>>33) % n
}

func pick[T any](d *drawer, l []T) T { return l[d.below(len(l))] }

// someNames are names of objects and of transactions: the same for both.
func someNames() []string { return []string{"a", "b", "c", "t", "u", "v", "w", "x1_"} }

// badEvents are events that may not be, by why: where they are laid behind world and a begin of t, most of them are out of order, too.
func badEvents() map[api.Errno][]api.Event {
	bad := func(o api.Op) api.Event { return api.Event{Kind: ops, Name: "t", Object: "c", Op: o} }
	return map[api.Errno][]api.Event{
		api.ErrWord:   {{}, {Kind: 6, Name: "t"}, {Kind: -1, Name: "c"}, {Kind: greatest}, {Kind: least, Name: "T"}, bad(api.Op{}), bad(api.Op{Kind: 16}), bad(api.Op{Kind: -1, A: 1})},
		api.ErrArg:    {{Kind: begins, Name: "t", Object: "c"}, {Kind: commits, Name: "n", First: first(1)}, {Kind: aborts, Name: "t", Op: act(1)}, {Kind: objects, Name: "c", Object: "c", First: first(1)}, {Kind: ops, Name: "n", Object: "c", Op: act(1), First: first(1)}, bad(api.Op{Kind: 2, A: 1, Ret: told(1)}), bad(api.Op{Kind: 13, A: -1, Ret: told(1)})},
		api.ErrName:   {begin(""), begin("T"), commit("1"), abort("_"), object("c ", first(1)), op("T", "c", 1), op("t", "", 1), op("n", "N", 1), begin(strings.Repeat("t", 33))},
		api.ErrType:   {object("c", first(0)), object("c", first(6)), object("n", first(-1))},
		api.ErrForm:   {object("c", first(2, 2, 1)), object("n", first(3, 1)), object("n", first(1, 1)), object("n", api.State{Type: 5, N: -1}), object("n", api.State{Type: 5, N: most + 1})},
		api.ErrLong:   {object("c", first(4, make([]int, 1001)...)), object("n", first(4, make([]int, 1001)...))},
		api.ErrReturn: {bad(api.Op{Kind: 1, Ret: told(1)}), bad(api.Op{Kind: 3, Ret: told(2)}), bad(api.Op{Kind: 11}), bad(api.Op{Kind: 11, Ret: api.Ret{Kind: 3}})},
	}
}

// bad are all of them, those of the least error first.
func bad() []api.Event {
	var l []api.Event
	for err := range api.ErrProof + 1 {
		l = append(l, badEvents()[err]...)
	}
	return l
}

// badOnes is bad, made once, for it is drawn from often.
var badOnes = bad()

// event draws an event: seldom one that may not be; whether it may follow is another thing.
func event(d *drawer) api.Event {
	if d.below(20) == 0 {
		return pick(d, badOnes)
	}
	name := pick(d, someNames())
	switch kind := 1 + d.below(5); kind {
	case objects:
		return object(name, first(1+d.below(5)))
	case ops:
		return op(name, pick(d, someNames()), 1+d.below(15))
	default:
		return api.Event{Kind: kind, Name: name}
	}
}

// likely draws an operation of one that began, at an object that is there, of its type; any event, if there is none. Each event of l must follow those ahead of it.
func likely(d *drawer, l []api.Event) api.Event {
	began, there := named(l, begins), named(l, objects)
	if len(began) == 0 || len(there) == 0 {
		return event(d)
	}
	at := pick(d, l[:len(there)]) // objects are ahead of all else
	kind := 1 + d.below(15)
	for typeOf(kind) != at.First.Type {
		kind = 1 + d.below(15)
	}
	return op(pick(d, began), at.Name, kind)
}

// drawn draws so many events at most that follow one another: what is drawn and may not follow is left out.
func drawn(d *drawer, count int) []api.Event {
	var l []api.Event
	// An object that is drawn later may not follow: so some are laid first.
	for range d.below(4) {
		if e := object(pick(d, someNames()), first(1+d.below(5))); why(l, e) == api.OK {
			l = append(l, e)
		}
	}
	for range 4 * count {
		e := event(d)
		if d.below(2) == 0 {
			e = likely(d, l)
		}
		if len(l) < count && why(l, e) == api.OK {
			l = append(l, e)
		}
	}
	return l
}
