package project_test

import (
	"slices"
	"strconv"
	"testing"

	"armistice/api"
	"armistice/history"
	"armistice/project"
)

// TestExamples holds the chapter's table.
func TestExamples(t *testing.T) {
	l := events(t, "object a counter 5; begin t; begin u; op u a read -> 5; commit u; abort t")
	read := []api.Act{{Object: 0, Op: api.Op{Kind: 2, Ret: told(5)}}}
	five := api.Case{Names: []string{"a"}, First: []api.State{{Type: 1, N: 5}}, Trans: []api.Trans{{Name: "u", Begin: 2, Commit: 4, Acts: read, At: []int{3}}}}
	c := made(t, l)
	if !alike(c, five) {
		t.Error(show(c))
	}
	if n, m := project.Size(c); n != 1 || m != 1 {
		t.Error(n, m)
	}
	if c, f := project.Make(nil); !alike(c, api.Case{}) || f != (api.Fault{}) || project.Check(c) != api.OK {
		t.Error(show(c), f)
	}
	reject(t, api.Case{Names: []string{"a"}}, api.ErrArg)
	reject(t, api.Case{Trans: []api.Trans{{Name: "t", Begin: 1, Commit: 1}}}, api.ErrOrder)
	five.Trans[0].Begin, five.Trans[0].Commit, five.Trans[0].At = 1, 3, []int{2}
	d, err := project.Dense(c)
	if err != api.OK || !alike(d, five) {
		t.Error(show(d), err)
	}
	if l, err := project.Back(d); err != api.OK || !alikeEvents(l, events(t, "object a counter 5; begin u; op u a read -> 5; commit u")) {
		t.Error(text(l), err)
	}
	accept(t, c)
	accept(t, d)
}

// TestNumbers: the numbers of the kinds, the types, the limits and the errors are the document's.
func TestNumbers(t *testing.T) {
	if !slices.Equal([]int{api.EventObject, api.EventBegin, api.EventOp, api.EventCommit, api.EventAbort}, []int{objects, begins, ops, commits, aborts}) {
		t.Error("the kinds of events")
	}
	if !slices.Equal([]int{api.MaxObjects, api.MaxTrans, api.MaxOps, api.MaxStart, api.Cap}, []int{maxObjects, maxTrans, maxOps, maxStart, most}) {
		t.Error("the limits")
	}
	if !slices.Equal([]api.Errno{api.OK, api.ErrArg, api.ErrRange, api.ErrLong, api.ErrForm, api.ErrWord, api.ErrName, api.ErrType, api.ErrReturn, api.ErrExists, api.ErrUnknown, api.ErrOrder}, []api.Errno{0, 2, 3, 4, 5, 6, 7, 8, 9, 10, 11, 13}) {
		t.Error("the errors")
	}
	if !slices.Equal([]int{api.Counter, api.Set, api.Map, api.Queue, api.Escrow}, []int{1, 2, 3, 4, 5}) {
		t.Error("the types")
	}
	if !slices.Equal([]int{api.Add, api.Read, api.Insert, api.Remove, api.Has, api.Size, api.Put, api.Get, api.Del, api.Enq, api.Deq, api.Len, api.Deposit, api.Withdraw, api.Balance}, []int{1, 2, 3, 4, 5, 6, 7, 8, 9, 10, 11, 12, 13, 14, 15}) {
		t.Error("the kinds of operations")
	}
}

// P14.1: Make.

func TestMakeNothing(t *testing.T) {
	for _, l := range [][]api.Event{nil, {}, []api.Event{begin("t")}[:0]} {
		c, f := project.Make(l)
		if f != (api.Fault{}) || len(c.Names) != 0 || len(c.First) != 0 || len(c.Trans) != 0 {
			t.Error(show(c), f)
		}
		accept(t, c)
	}
}

func TestMakeWhole(t *testing.T) {
	c, f := project.Make(whole(t))
	if f != (api.Fault{}) || !alike(c, wholeCase()) {
		t.Errorf("%s, %v; want %s", show(c), f, show(wholeCase()))
	}
	made(t, whole(t))
	accept(t, c)
}

// mistakes are events that may not follow whole, or what of it stands anywhere, or may not be at all, by why.
func mistakes() map[api.Errno][]api.Event {
	bad := func(o api.Op) api.Event { return api.Event{Kind: ops, Name: "t", Object: "c", Op: o} }
	return map[api.Errno][]api.Event{
		api.ErrWord:   {{}, {Kind: 6, Name: "t"}, {Kind: -1, Name: "c"}, {Kind: greatest}, bad(api.Op{}), bad(api.Op{Kind: 16})},
		api.ErrArg:    {{Kind: begins, Name: "t", Object: "c"}, {Kind: commits, Name: "n", First: first(1)}, {Kind: aborts, Name: "t", Op: done(1)}, bad(api.Op{Kind: 2, A: 1, Ret: told(1)}), bad(api.Op{Kind: 13, A: -1, Ret: told(1)})},
		api.ErrName:   {begin(""), begin("T"), commit("1"), abort("_"), object("c ", first(1)), op("T", "c", 1), op("t", "", 1), op("n", "N", 1)},
		api.ErrType:   {object("c", first(0)), object("n", first(6))},
		api.ErrForm:   {object("c", first(2, 2, 1)), object("n", first(3, 1)), object("n", api.State{Type: 5, N: -1})},
		api.ErrLong:   {object("c", first(4, make([]int, 1001)...)), object("n", first(4, make([]int, 1001)...))},
		api.ErrReturn: {bad(api.Op{Kind: 1, Ret: told(1)}), bad(api.Op{Kind: 3, Ret: told(2)}), bad(api.Op{Kind: 11})},
	}
}

// TestMakeMistakes: what may not be at all is told with its error and its number, at the beginning, in between and at the end.
func TestMakeMistakes(t *testing.T) {
	l := whole(t)
	for err, bad := range mistakes() {
		for _, e := range bad {
			for at := range len(l) + 1 {
				refuse(t, slices.Insert(slices.Clone(l), at, e), err, at)
				refuse(t, append(slices.Clip(l[:at]), e), err, at)
			}
			refuse(t, []api.Event{e}, err, 0)
			refuse(t, []api.Event{e, e, begin("T")}, err, 0)
		}
	}
}

// TestMakeOutOfOrder: what may not follow is told likewise.
func TestMakeOutOfOrder(t *testing.T) {
	for s, want := range map[string]api.Fault{
		"commit t": fault(api.ErrUnknown, 0), "abort t": fault(api.ErrUnknown, 0), "op t a read -> 1": fault(api.ErrUnknown, 0),
		"object a counter 1; object a set":                                               fault(api.ErrExists, 1),
		"begin t; object a counter 1":                                                    fault(api.ErrOrder, 1),
		"begin t; begin t":                                                               fault(api.ErrExists, 1),
		"begin t; commit t; begin t":                                                     fault(api.ErrExists, 2),
		"begin t; abort t; begin t; commit t":                                            fault(api.ErrExists, 2),
		"object a counter 1; begin t; commit t; abort t":                                 fault(api.ErrOrder, 3),
		"object a counter 1; begin t; commit t; op t a read -> 1":                        fault(api.ErrOrder, 3),
		"object a counter 1; begin t; commit t; commit t":                                fault(api.ErrOrder, 3),
		"object a counter 1; begin t; op t a size -> 1; commit t":                        fault(api.ErrType, 2),
		"object a counter 1; begin t; op t b read -> 1; commit t":                        fault(api.ErrUnknown, 2),
		"object a counter 1; begin t; op t a read -> 1; commit t; object b set; begin t": fault(api.ErrOrder, 4),
	} {
		refuse(t, events(t, s), want.Err, want.At)
	}
	l := whole(t)
	seen := map[api.Errno]int{}
	for at := range len(l) + 1 {
		for _, e := range []api.Event{begin("t"), begin("n"), commit("n"), abort("u"), commit("t"), op("t", "c", 1), op("v", "n", 1), op("v", "c", 11), object("c", first(1)), object("n", first(4))} {
			for _, m := range [][]api.Event{append(slices.Clip(l[:at]), e), slices.Insert(slices.Clone(l), at, e)} {
				holdEvents(t, m)
				seen[history.Check(m).Err]++
			}
		}
	}
	for _, err := range []api.Errno{api.OK, api.ErrExists, api.ErrUnknown, api.ErrOrder, api.ErrType} {
		if seen[err] < 10 {
			t.Error("the test itself is wrong:", seen)
		}
	}
}

// TestMakeObjects: of objects alone, of each type and in each order, just they are told, as they came.
func TestMakeObjects(t *testing.T) {
	for kind := 1; kind <= 5; kind++ {
		c := made(t, []api.Event{object("a", first(kind))})
		if !alike(c, api.Case{Names: []string{"a"}, First: []api.State{{Type: kind}}}) {
			t.Error(show(c))
		}
		accept(t, c)
	}
	for s, want := range map[string]api.State{"counter -7": {Type: 1, N: -7}, "set -5 3": first(2, -5, 3), "map 1 10 2 -20": first(3, 1, 10, 2, -20), "queue 3 1 3": first(4, 3, 1, 3), "escrow 4611686018427387904": {Type: 5, N: most}} {
		c := made(t, events(t, "object z counter 1; object b "+s+"; object a set 4"))
		if !alike(c, api.Case{Names: []string{"z", "b", "a"}, First: []api.State{{Type: 1, N: 1}, want, first(2, 4)}}) {
			t.Error(show(c))
		}
		accept(t, c)
	}
}

// TestMakeEnds: who commits is told; who aborts, or never ends, is not, whatever it did.
func TestMakeEnds(t *testing.T) {
	w := world() + "; begin t; op t c add 1 -> ok; op t s size -> 2"
	for end, want := range map[string][]api.Trans{
		"": nil, "; abort t": nil,
		"; commit t":                   {{Name: "t", Begin: 5, Commit: 8, Acts: []api.Act{{Object: 0, Op: api.Op{Kind: 1, A: 1}}, {Object: 1, Op: api.Op{Kind: 6, Ret: told(2)}}}, At: []int{6, 7}}},
		"; begin u; commit u":          {{Name: "u", Begin: 8, Commit: 9}},
		"; abort t; begin u; commit u": {{Name: "u", Begin: 9, Commit: 10}},
		"; begin u; commit u; abort t": {{Name: "u", Begin: 8, Commit: 9}},
	} {
		c := made(t, events(t, w+end))
		if !alike(api.Case{Trans: c.Trans}, api.Case{Trans: want}) {
			t.Errorf("%s: %s", end, show(c))
		}
		accept(t, c)
	}
	for s, names := range map[string][]string{
		"begin t; commit t": {"t"}, "begin t; abort t": nil, "begin t": nil,
		"begin z; begin b; begin a; commit a; commit b; commit z": {"z", "b", "a"},
		"begin z; begin b; begin a; commit a; abort b; commit z":  {"z", "a"},
		"begin z; begin b; begin a; commit b; commit a":           {"b", "a"},
		"begin z; commit z; begin b; abort b; begin a; commit a":  {"z", "a"},
		"begin z; abort z; begin b; commit b; begin a":            {"b"},
	} {
		c := made(t, events(t, s))
		var got []string
		for _, x := range c.Trans {
			got = append(got, x.Name)
		}
		if !slices.Equal(got, names) {
			t.Errorf("%s: %v", s, got)
		}
		accept(t, c)
	}
}

// TestMakeOrder: the order is that of the begins, whatever that of the commits and of the names; places count all events.
func TestMakeOrder(t *testing.T) {
	c := made(t, events(t, "object b set; object a counter 0; begin x; begin z; begin y; op y a add 3 -> ok; op x b size -> 0; op z a read -> 0; op y b has 1 -> 0; commit y; abort x; op z a read -> 3; commit z"))
	want := []api.Trans{
		{Name: "z", Begin: 3, Commit: 12, At: []int{7, 11}, Acts: []api.Act{{Object: 1, Op: api.Op{Kind: 2, Ret: told(0)}}, {Object: 1, Op: api.Op{Kind: 2, Ret: told(3)}}}},
		{Name: "y", Begin: 4, Commit: 9, At: []int{5, 8}, Acts: []api.Act{{Object: 1, Op: api.Op{Kind: 1, A: 3}}, {Object: 0, Op: api.Op{Kind: 5, A: 1, Ret: told(0)}}}},
	}
	if !alike(c, api.Case{Names: []string{"b", "a"}, First: []api.State{first(2), first(1)}, Trans: want}) {
		t.Error(show(c))
	}
	accept(t, c)
}

// TestMakeSameNames: an object and a transaction may have one name, and know nothing of each other.
func TestMakeSameNames(t *testing.T) {
	l := events(t, "object a counter 1; object t set; begin t; begin a; op t t insert 1 -> 1; op t a add 1 -> ok; op a t size -> 1; op a a read -> 2; commit a; commit t")
	c := made(t, l)
	if len(c.Trans) != 2 || c.Trans[0].Acts[0].Object != 1 || c.Trans[1].Acts[1].Object != 0 {
		t.Error(show(c))
	}
	accept(t, c)
	made(t, append(slices.Clip(l[:9]), abort("t")))
}

// TestMakeKinds: an operation of each kind, at the object of its type, is told as it was.
func TestMakeKinds(t *testing.T) {
	d := drawer(1)
	l := append(events(t, world()), begin("t"))
	var acts []api.Act
	for kind := 1; kind <= 15; kind++ {
		for range 5 {
			a := api.Act{Object: typeOf(kind) - 1, Op: d.op(kind)}
			l = append(l, api.Event{Kind: ops, Name: "t", Object: l[a.Object].Name, Op: a.Op})
			acts = append(acts, a)
		}
	}
	c := made(t, append(l, commit("t")))
	if !slices.Equal(c.Trans[0].Acts, acts) {
		t.Error(show(c))
	}
	accept(t, c)
}

// TestMakeShort holds all short lists of a few events.
func TestMakeShort(t *testing.T) {
	few := []api.Event{object("a", first(1)), object("b", first(2)), begin("a"), begin("t"), op("t", "a", 1), op("a", "b", 5), op("t", "b", 1), commit("t"), commit("a"), abort("t")}
	good := 0
	var extend func(l []api.Event)
	extend = func(l []api.Event) {
		holdEvents(t, l)
		if history.Check(l).Err == api.OK {
			good++
		} else if len(l) > 2 {
			return
		}
		if len(l) < 7 {
			for _, e := range few {
				extend(append(slices.Clip(l), e))
			}
		}
	}
	extend(nil)
	if good < 200 {
		t.Error("the test itself is wrong:", good)
	}
}

// TestMakeDrawn holds drawn histories, and drawn events that are none.
func TestMakeDrawn(t *testing.T) {
	d := drawer(2)
	counts := map[api.Errno]int{}
	trans, acts := 0, 0
	for range 3000 {
		l := d.history(d.below(60))
		c := made(t, l)
		accept(t, c)
		n, m := size(c)
		trans, acts = trans+n, acts+m
		more := append(slices.Clone(l), d.history(20)...)
		for range 1 + d.below(3) {
			e := d.wild()
			if d.below(2) == 0 && len(more) > 0 {
				e = pick(&d, more)
			}
			l = slices.Insert(l, d.below(len(l)+1), e)
		}
		holdEvents(t, l)
		counts[history.Check(l).Err]++
	}
	for _, err := range []api.Errno{api.ErrExists, api.ErrUnknown, api.ErrOrder, api.ErrArg, api.ErrWord} {
		if counts[err] < 15 || trans < 5000 || acts < 5000 {
			t.Error("the test itself is wrong:", counts, trans, acts)
		}
	}
}

// TestMakeMany: as many objects, transactions and operations as a history has make a case; one more is history.Check's fault.
func TestMakeMany(t *testing.T) {
	var l []api.Event
	for n := range maxObjects {
		l = append(l, object("a"+strconv.Itoa(n), first(1+n%5)))
	}
	c := made(t, l)
	accept(t, c)
	refuse(t, append(slices.Clip(l), object("b", first(1))), api.ErrLong, maxObjects)
	for n := range maxTrans {
		l = append(l, begin("t"+strconv.Itoa(n)))
	}
	for n := range maxOps {
		at := n * 7 % maxObjects
		l = append(l, op("t"+strconv.Itoa(n*5%maxTrans), "a"+strconv.Itoa(at), kindOf(1+at%5)))
	}
	refuse(t, append(slices.Clip(l), l[len(l)-1]), api.ErrLong, len(l))
	for n := range maxTrans {
		l = append(l, commit("t"+strconv.Itoa(maxTrans-1-n)))
	}
	c = made(t, l)
	if n, m := project.Size(c); n != maxTrans || m != maxOps || c.Trans[5].Commit != len(l)-6 {
		t.Error(n, m)
	}
	accept(t, c)
	if b, err := project.Back(c); err != api.OK || !alikeEvents(b, l) {
		t.Error("what Back tells of a history without aborts is that history:", err)
	}
}
