package history_test

import (
	"slices"
	"strconv"
	"strings"
	"testing"

	"armistice/api"
	"armistice/history"
)

// TestExamples holds the chapter's table.
func TestExamples(t *testing.T) {
	o := "object a counter 1; "
	for s, want := range map[string]api.Fault{
		o + "begin t; op t a read -> 1; commit t": {},
		o + "object a counter 1":                  fault(api.ErrExists, 1),
		"begin t; object a counter 1":             fault(api.ErrOrder, 1),
		"begin t; begin t":                        fault(api.ErrExists, 1),
		"commit t":                                fault(api.ErrUnknown, 0),
		o + "begin t; commit t; abort t":          fault(api.ErrOrder, 3),
		o + "begin t; op t a size -> 1":           fault(api.ErrType, 2),
		o + "begin t; op t b read -> 1":           fault(api.ErrUnknown, 2),
		"begin t; abort t; begin t":               fault(api.ErrExists, 2),
	} {
		l := events(t, s)
		if f := history.Check(l); f != want {
			t.Errorf("Check(%s): %v; want %v", s, f, want)
		}
		hold(t, l)
	}
	expect(t, events(t, o+"begin t; begin u; op u a read -> 1; abort u"), []api.Life{{Name: "t", Begin: 1, End: -1}, {Name: "u", Begin: 2, End: 4, Ops: 1}}, []string{"a"}, api.Fault{})
}

// TestNumbers: the numbers of the kinds, the limits and the errors are the document's.
func TestNumbers(t *testing.T) {
	if !slices.Equal([]int{api.EventObject, api.EventBegin, api.EventOp, api.EventCommit, api.EventAbort}, []int{objects, begins, ops, commits, aborts}) {
		t.Error("the kinds of events")
	}
	if !slices.Equal([]int{api.MaxObjects, api.MaxTrans, api.MaxOps}, []int{maxObjects, maxTrans, maxOps}) {
		t.Error("the limits")
	}
	if !slices.Equal([]api.Errno{api.OK, api.ErrNil, api.ErrLong, api.ErrType, api.ErrExists, api.ErrUnknown, api.ErrOrder}, []api.Errno{0, 1, 4, 8, 10, 11, 13}) {
		t.Error("the errors")
	}
	if !slices.Equal([]int{api.Counter, api.Set, api.Map, api.Queue, api.Escrow}, []int{1, 2, 3, 4, 5}) {
		t.Error("the types")
	}
}

// What may follow: each rule by itself.

// behind are beginnings of all sorts: behind most of them t runs, is committed, is aborted, or an object cannot follow.
func behind(t *testing.T) [][]api.Event {
	w := world() + "; "
	var all [][]api.Event
	for _, s := range []string{"", world(), "begin t", w + "begin t", w + "begin t; op t c add 1 -> ok", w + "begin t; commit t", w + "begin t; abort t", w + "begin u; begin n; commit u", "object t counter 0"} {
		if s == "" {
			all = append(all, nil)
			continue
		}
		all = append(all, events(t, s))
	}
	return all
}

// TestBadEvents: what grammar.Check does not let be is told with that one's error, ahead of all that is out of order.
func TestBadEvents(t *testing.T) {
	for err, l := range badEvents() {
		for _, e := range l {
			for _, ahead := range behind(t) {
				refuseLast(t, append(slices.Clip(ahead), e), err)
			}
		}
	}
}

// TestObjectOutOfOrder: behind an event of each other kind no object follows, be its name there or not.
func TestObjectOutOfOrder(t *testing.T) {
	w := events(t, world())
	tail := events(t, "begin t; begin u; op t c add 1 -> ok; commit t; op u s size -> 2; abort u")
	for n := 1; n <= len(tail); n++ {
		l := slices.Concat(w, tail[:n])
		for _, name := range []string{"n", "t", "c", "e"} {
			for kind := 1; kind <= 5; kind++ {
				refuseLast(t, append(slices.Clip(l), object(name, first(kind))), api.ErrOrder)
			}
		}
	}
	// Without an object ahead, too.
	for _, s := range []string{"begin t", "begin t; commit t", "begin t; abort t", "begin t; begin u; abort t"} {
		refuseLast(t, append(events(t, s), object("n", first(1))), api.ErrOrder)
	}
}

// TestObjectTwice: a name is there once among objects, whatever its type and state.
func TestObjectTwice(t *testing.T) {
	w := events(t, world())
	for n := 1; n <= len(w); n++ {
		for _, e := range w[:n] {
			for kind := 1; kind <= 5; kind++ {
				refuseLast(t, append(slices.Clip(w[:n]), object(e.Name, first(kind))), api.ErrExists)
			}
			refuseLast(t, append(slices.Clip(w[:n]), e), api.ErrExists)
		}
		accept(t, append(slices.Clip(w[:n]), object("n", first(1))))
	}
}

// many are so many events, the names of which a number ends.
func many(count int, make func(name string) api.Event, prefix string) []api.Event {
	var l []api.Event
	for n := range count {
		l = append(l, make(prefix+strconv.Itoa(n)))
	}
	return l
}

// anObject is an object, of a type that hangs on its name.
func anObject(name string) api.Event { return object(name, first(1+len(name)%5)) }

// TestManyObjects: 256 may be, and no 257th one; of that one its place and its name are told ahead.
func TestManyObjects(t *testing.T) {
	l := many(maxObjects, anObject, "a")
	accept(t, l[:maxObjects-1])
	accept(t, l)
	refuseLast(t, append(slices.Clip(l), anObject("b")), api.ErrLong)
	for _, n := range []int{0, 1, 100, 254, 255} {
		refuseLast(t, append(slices.Clip(l), anObject("a"+strconv.Itoa(n))), api.ErrExists)
	}
	l = append(l, begin("t"))
	accept(t, l)
	refuseLast(t, append(slices.Clip(l), anObject("b")), api.ErrOrder)
	refuseLast(t, append(slices.Clip(l), anObject("a7")), api.ErrOrder)
	for n := range maxObjects {
		e := l[n]
		for kind := 1; kind <= 15; kind++ {
			if typeOf(kind) == e.First.Type {
				accept(t, append(slices.Clip(l), op("t", e.Name, kind)))
				break
			}
		}
	}
}

// TestBeginTwice: of a name that runs, is committed or is aborted none begins again, wherever it stands.
func TestBeginTwice(t *testing.T) {
	for _, s := range []string{
		"begin t", "begin t; commit t", "begin t; abort t",
		"begin u; begin t; commit u", "begin t; begin u; commit u", "begin t; commit t; begin u", "begin t; begin u; abort t; abort u",
		world() + "; begin t", world() + "; begin t; op t c add 1 -> ok", world() + "; begin t; op t c add 1 -> ok; commit t", world() + "; begin t; op t c add 1 -> ok; abort t",
	} {
		l := events(t, s)
		refuseLast(t, append(slices.Clip(l), begin("t")), api.ErrExists)
		for _, name := range []string{"n", "c", "t_", "t1", "tt"} {
			accept(t, append(slices.Clip(l), begin(name)))
		}
	}
}

// TestManyTrans: 4,096 may begin, be they over or not, and no 4,097th one; of that one the name is told ahead.
func TestManyTrans(t *testing.T) {
	running := many(maxTrans, begin, "t")
	var over []api.Event
	for n, e := range running {
		over = append(over, e, []api.Event{commit(e.Name), abort(e.Name)}[n&1])
	}
	for _, l := range [][]api.Event{running, over, append(events(t, world()), running...)} {
		accept(t, l[:len(l)-1])
		accept(t, l)
		refuseLast(t, append(slices.Clip(l), begin("n")), api.ErrLong)
		refuseLast(t, append(slices.Clip(l), begin("c")), api.ErrLong)
		for _, n := range []int{0, 1, 2047, 4094, 4095} {
			refuseLast(t, append(slices.Clip(l), begin("t"+strconv.Itoa(n))), api.ErrExists)
		}
		refuseLast(t, append(slices.Clip(l), commit("n")), api.ErrUnknown)
	}
	l := append(slices.Clip(running), abort("t0"), commit("t4095"))
	accept(t, l)
	refuseLast(t, append(slices.Clip(l), begin("n")), api.ErrLong)
	refuseLast(t, append(slices.Clip(l), begin("t0")), api.ErrExists)
	refuseLast(t, append(slices.Clip(l), abort("t0")), api.ErrOrder)
}

// TestNotRunning: an op, a commit and an abort of who never began, is committed, or is aborted; of an op, whatever its object and its kind.
func TestNotRunning(t *testing.T) {
	later := []api.Event{commit("t"), abort("t"), op("t", "c", 1), op("t", "c", 2), op("t", "c", 3), op("t", "s", 6), op("t", "n", 1), op("t", "t", 1), op("t", "u", 11)}
	w := world() + "; "
	for s, err := range map[string]api.Errno{
		world(): api.ErrUnknown, w + "begin u": api.ErrUnknown, w + "begin u; commit u": api.ErrUnknown, w + "object t counter 0": api.ErrUnknown, w + "object t counter 0; begin u; op u t add 1 -> ok": api.ErrUnknown, "begin tt; begin t_": api.ErrUnknown,
		w + "begin t; commit t": api.ErrOrder, w + "begin t; abort t": api.ErrOrder, w + "begin t; op t c add 1 -> ok; commit t": api.ErrOrder, w + "begin t; op t c add 1 -> ok; abort t": api.ErrOrder,
		"begin t; commit t": api.ErrOrder, "begin t; abort t": api.ErrOrder, w + "begin t; begin u; abort t; op u c add 1 -> ok": api.ErrOrder, w + "begin u; begin t; commit t; commit u": api.ErrOrder,
	} {
		l := events(t, s)
		for _, e := range later {
			refuseLast(t, append(slices.Clip(l), e), err)
		}
	}
	for _, e := range later {
		refuse(t, []api.Event{e}, api.ErrUnknown, 0)
	}
}

// TestRuns: who runs does, commits or aborts; in between others do what they will.
func TestRuns(t *testing.T) {
	for _, s := range []string{"begin t", "begin u; begin t", "begin t; begin u; commit u", "begin t; begin u; abort u", "begin t; op t c add 1 -> ok; op t s size -> 1"} {
		l := events(t, world()+"; "+s)
		for _, e := range []api.Event{commit("t"), abort("t"), op("t", "c", 1), op("t", "s", 6), op("t", "m", 7), op("t", "q", 11), op("t", "e", 15)} {
			accept(t, append(slices.Clip(l), e))
		}
	}
	accept(t, events(t, "begin t; commit t"))
	accept(t, events(t, "begin t; abort t"))
}

// TestNoObject: an op at an object that is not there, be it a transaction's name.
func TestNoObject(t *testing.T) {
	for _, s := range []string{"begin t", "begin t; begin u", world() + "; begin t; begin u", "object t_ counter 1; begin t; begin u; commit u"} {
		l := events(t, s)
		for kind := 1; kind <= 15; kind++ {
			for _, name := range []string{"n", "t", "u", "cc", "c_", "c1", "ss"} {
				refuseLast(t, append(slices.Clip(l), op("t", name, kind)), api.ErrUnknown)
			}
		}
	}
}

// TestTypes: at an object of each type an operation of each kind.
func TestTypes(t *testing.T) {
	for at := 1; at <= 5; at++ {
		for kind := 1; kind <= 15; kind++ {
			l := []api.Event{object("c", first(at)), begin("t"), op("t", "c", kind)}
			if typeOf(kind) == at {
				accept(t, l)
			} else {
				refuseLast(t, l, api.ErrType)
			}
			// The object counts that is named, not one beside it.
			for other := 1; other <= 5; other++ {
				for _, name := range []string{"b", "d", "t"} {
					m := slices.Insert(slices.Clone(l), at%2, object(name, first(other)))
					if typeOf(kind) == at {
						accept(t, m)
					} else {
						refuseLast(t, m, api.ErrType)
					}
				}
			}
		}
	}
}

// TestLegalOrNot: whether an operation is legal at the object's state does not matter.
func TestLegalOrNot(t *testing.T) {
	accept(t, events(t, world()+"; begin t; op t c read -> 77; op t s has 1 -> 0; op t s size -> 0; op t m get 1 -> 5; op t q deq -> none; op t e balance -> 6; commit t"))
}

// TestManyOps: 2^20 operations may be, whoever did them and whatever has become of him, and not one more; of that one all else is told ahead.
func TestManyOps(t *testing.T) {
	l := events(t, world()+"; begin t; begin u; begin v")
	head := len(l)
	l = append(l, slices.Repeat([]api.Event{op("t", "c", 1), op("u", "s", 6), op("t", "q", 10), op("v", "e", 15)}, maxOps/4)...)
	l = slices.Insert(l, head+1000, commit("v"), begin("x"))
	for i := head + 1002; i < len(l); i++ {
		if l[i].Name == "v" {
			l[i].Name = "x"
		}
	}
	l = append(l, abort("u"), begin("y"))
	if last := l[len(l)-3]; last.Kind != ops || len(named(l, ops)) != maxOps {
		t.Fatalf("the test itself is wrong: %d operations, the last one %v", len(named(l, ops)), last)
	}
	accept(t, l)
	if f := history.Check(append(l, op("t", "c", 1))); f != fault(api.ErrLong, len(l)) {
		t.Errorf("one operation more: %v", f)
	}
	d := laid(t, l)
	for _, x := range []struct {
		e   api.Event
		err api.Errno
	}{
		{op("t", "c", 1), api.ErrLong}, {op("x", "e", 15), api.ErrLong}, {op("y", "m", 8), api.ErrLong},
		{op("t", "c", 3), api.ErrType}, {op("y", "n", 1), api.ErrUnknown}, {op("n", "c", 1), api.ErrUnknown}, {op("u", "c", 1), api.ErrOrder}, {op("v", "n", 3), api.ErrOrder},
		{begin("t"), api.ErrExists}, {object("n", first(1)), api.ErrOrder}, {commit("u"), api.ErrOrder}, {begin("T"), api.ErrName},
	} {
		if err := d.Add(x.e); err != x.err {
			t.Errorf("Add(%s): %v; want %v", text([]api.Event{x.e}), err, x.err)
		}
	}
	expectDesk(t, d, l)
	// What is no op may still follow.
	for _, e := range []api.Event{commit("t"), begin("z"), abort("x"), abort("z")} {
		l = append(l, e)
		if err := d.Add(e); err != api.OK {
			t.Errorf("Add(%s): %v", text([]api.Event{e}), err)
		}
	}
	expectDesk(t, d, l)
}

// TestSameNames: an object and a transaction may have one name, and know nothing of each other.
func TestSameNames(t *testing.T) {
	l := events(t, "object a counter 1; object t set; begin t; begin a; op t t insert 1 -> 1; op t a add 1 -> ok; op a t size -> 1; op a a read -> 2; commit a; abort t")
	for n := range len(l) + 1 {
		accept(t, l[:n])
	}
	lives, _ := history.Lives(l)
	if !slices.Equal(lives, []api.Life{{Name: "t", Begin: 2, End: 9, Ops: 2}, {Name: "a", Begin: 3, End: 8, Committed: true, Ops: 2}}) {
		t.Error(lives)
	}
	refuseLast(t, append(slices.Clip(l[:4]), op("t", "t", 1)), api.ErrType)
	refuseLast(t, append(slices.Clip(l[:2]), op("a", "a", 1)), api.ErrUnknown)
	refuseLast(t, append(slices.Clip(l[:2]), commit("a")), api.ErrUnknown)
}

// P13.1: Check, Lives and Objects.

func TestNothing(t *testing.T) {
	expect(t, nil, nil, nil, api.Fault{})
	expect(t, []api.Event{}, nil, nil, api.Fault{})
	expect(t, []api.Event{begin("t")}[:0], nil, nil, api.Fault{})
}

func TestOneEvent(t *testing.T) {
	for kind := 1; kind <= 5; kind++ {
		expect(t, []api.Event{object("a", first(kind))}, nil, []string{"a"}, api.Fault{})
	}
	expect(t, []api.Event{begin("t")}, []api.Life{{Name: "t", End: -1}}, nil, api.Fault{})
	refuse(t, []api.Event{op("t", "a", 1)}, api.ErrUnknown, 0)
	refuse(t, []api.Event{commit("t")}, api.ErrUnknown, 0)
	refuse(t, []api.Event{abort("t")}, api.ErrUnknown, 0)
	for err, l := range badEvents() {
		for _, e := range l {
			refuse(t, []api.Event{e}, err, 0)
		}
	}
}

// whole is a history in which all kinds stand, and transactions that run, commit and abort.
func whole(t *testing.T) []api.Event {
	t.Helper()
	return events(t, world()+"; begin t; begin u; op t c add 1 -> ok; op u s insert 3 -> 1; begin v; commit t; op v q deq -> 7; op u e withdraw 2 -> 1; abort u; begin w; op v m put 1 2 -> none; op v m get 1 -> 2; commit v; begin x")
}

func TestWhole(t *testing.T) {
	expect(t, whole(t), []api.Life{
		{Name: "t", Begin: 5, End: 10, Committed: true, Ops: 1}, {Name: "u", Begin: 6, End: 13, Ops: 2}, {Name: "v", Begin: 9, End: 17, Committed: true, Ops: 3},
		{Name: "w", Begin: 14, End: -1}, {Name: "x", Begin: 18, End: -1},
	}, []string{"c", "s", "m", "q", "e"}, api.Fault{})
}

// TestOrders: lives are told in the order of the begins, not of the ends, nor of the names; objects as they came.
func TestOrders(t *testing.T) {
	expect(t, events(t, "object z counter 1; object a set; object m map; begin z; begin b; begin y; begin a; commit a; abort y; commit z"), []api.Life{
		{Name: "z", Begin: 3, End: 9, Committed: true}, {Name: "b", Begin: 4, End: -1}, {Name: "y", Begin: 5, End: 8}, {Name: "a", Begin: 6, End: 7, Committed: true},
	}, []string{"z", "a", "m"}, api.Fault{})
}

// TestBegins: at event 0 somebody may begin, and end at 1.
func TestBegins(t *testing.T) {
	expect(t, events(t, "begin t; commit t; begin u; abort u"), []api.Life{{Name: "t", End: 1, Committed: true}, {Name: "u", Begin: 2, End: 3}}, nil, api.Fault{})
}

// TestFirstWrong: the first event that may not follow is told, wherever it stands; what stands behind it, also more that may not, does not matter.
func TestFirstWrong(t *testing.T) {
	l := whole(t)
	seen := map[api.Errno]int{}
	for at := range len(l) + 1 {
		for _, e := range append(bad(), begin("t"), commit("n"), abort("u"), op("t", "c", 1), op("v", "n", 1), op("v", "c", 11), object("c", first(1)), object("n", first(4))) {
			err := why(l[:at], e)
			if err == api.OK {
				continue
			}
			seen[err]++
			refuse(t, append(slices.Clip(l[:at]), e), err, at)
			refuse(t, slices.Insert(slices.Clone(l), at, e), err, at)
			refuse(t, append(slices.Insert(slices.Clone(l), at, e), bad()...), err, at)
			refuse(t, append(append(slices.Clip(l[:at]), e), e, begin("T"), commit("n"), begin("n"), begin("n")), err, at)
		}
	}
	for _, err := range []api.Errno{api.ErrExists, api.ErrUnknown, api.ErrOrder, api.ErrType, api.ErrName, api.ErrWord, api.ErrArg, api.ErrForm, api.ErrReturn, api.ErrLong} {
		if seen[err] < 10 {
			t.Error("the test itself is wrong:", seen)
		}
	}
}

// TestLeftOut: events of which one is left out, or two are exchanged.
func TestLeftOut(t *testing.T) {
	l := whole(t)
	for i := range l {
		hold(t, slices.Delete(slices.Clone(l), i, i+1))
		hold(t, slices.Insert(slices.Clone(l), i, l[i]))
		for j := range l {
			m := slices.Clone(l)
			m[i], m[j] = m[j], m[i]
			hold(t, m)
		}
	}
}

// TestShort holds all short lists of a few events against the chapter's words.
func TestShort(t *testing.T) {
	few := []api.Event{object("a", first(1)), object("b", first(2)), begin("a"), begin("t"), op("t", "a", 1), op("a", "b", 5), op("t", "b", 1), commit("t"), abort("a"), abort("t")}
	good := 0
	var extend func(l []api.Event)
	extend = func(l []api.Event) {
		hold(t, l)
		if wrong(l).Err == api.OK {
			good++
		} else if len(l) > 2 {
			return
		}
		if len(l) < 8 {
			for _, e := range few {
				extend(append(slices.Clip(l), e))
			}
		}
	}
	extend(nil)
	if good < 800 {
		t.Error("the test itself is wrong:", good)
	}
}

// TestDrawn holds drawn events, of which many may follow and many may not, against the chapter's words.
func TestDrawn(t *testing.T) {
	d := drawer(1)
	counts := map[api.Errno]int{}
	for range 4000 {
		l := drawn(&d, d.below(40))
		hold(t, l)
		more := []api.Event{event(&d), likely(&d, l), event(&d)}
		for _, e := range more[:1+d.below(3)] {
			l = slices.Insert(l, d.below(len(l)+1), e)
		}
		counts[history.Check(l).Err]++
		hold(t, l)
	}
	for _, err := range []api.Errno{api.OK, api.ErrExists, api.ErrUnknown, api.ErrOrder, api.ErrType, api.ErrName, api.ErrWord, api.ErrArg, api.ErrForm, api.ErrReturn} {
		if counts[err] < 15 {
			t.Error("the test itself is wrong:", counts)
		}
	}
}

// TestLongNames: names as long as they may be, which differ at their ends alone.
func TestLongNames(t *testing.T) {
	long := strings.Repeat("q", 31)
	l := []api.Event{object(long+"1", first(1)), object(long+"2", first(2)), begin(long + "1"), begin(long + "3"), op(long+"3", long+"2", 5), op(long+"1", long+"1", 2), commit(long + "3")}
	accept(t, l)
	refuseLast(t, append(slices.Clip(l), op(long+"3", long+"2", 5)), api.ErrOrder)
	refuseLast(t, append(slices.Clip(l), op(long+"2", long+"2", 5)), api.ErrUnknown)
	refuseLast(t, append(slices.Clip(l), op(long+"1", long+"2", 2)), api.ErrType)
}
