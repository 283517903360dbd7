package project_test

import (
	"slices"
	"strings"
	"testing"
	"unsafe"

	"armistice/api"
	"armistice/history"
	"armistice/project"
)

// P14.4: what follows.

// TestMadeMayBe: what is made may be.
func TestMadeMayBe(t *testing.T) {
	d := drawer(7)
	for range 3000 {
		c, f := project.Make(d.history(d.below(80)))
		if f != (api.Fault{}) {
			t.Fatal("the test itself is wrong:", f)
		}
		if err := project.Check(c); err != api.OK {
			t.Errorf("Check(%s): %v", show(c), err)
		}
	}
}

// TestThereAndBack: of the events that Back tells the dense case is made, be the case made of events, dense, or far apart; they are a history, and what is told of them is told the same again.
func TestThereAndBack(t *testing.T) {
	d := drawer(8)
	all := []api.Case{{}, wholeCase(), rooms(), placed(3, []int{0, 1, 2}), placed(1, []int{0, 5, greatest}, []int{2, most})}
	for range 1500 {
		c := made(t, d.history(d.below(60)))
		all = append(all, c, d.sparse(c), d.sparse(c))
	}
	for _, c := range all {
		x, err := project.Dense(c)
		if err != api.OK {
			t.Fatal(err)
		}
		for _, y := range []api.Case{c, x} {
			l, err := project.Back(y)
			if f := history.Check(l); err != api.OK || f != (api.Fault{}) {
				t.Errorf("Back(%s): %s, %v, %v", show(y), text(l), err, f)
			}
			if z, f := project.Make(l); f != (api.Fault{}) || !alike(z, x) {
				t.Errorf("Make(%s): %s, %v; want %s", text(l), show(z), f, show(x))
			}
			if m, err := project.Back(x); err != api.OK || !alikeEvents(m, l) {
				t.Errorf("Back(%s): %s, %v; want %s", show(x), text(m), err, text(l))
			}
		}
	}
}

// lost are the names of the transactions of a history that do not commit.
func lost(l []api.Event) []string {
	var names []string
	for _, e := range l {
		if e.Kind == begins && !slices.ContainsFunc(l, func(x api.Event) bool { return x.Kind == commits && x.Name == e.Name }) {
			names = append(names, e.Name)
		}
	}
	return names
}

// without are the events of a history but those of one transaction.
func without(l []api.Event, name string) []api.Event {
	return slices.DeleteFunc(slices.Clone(l), func(e api.Event) bool { return e.Kind != objects && e.Name == name })
}

// TestLostDoNotMatter: without the events of one that aborts, or never ends, or of all of them, the case is the same, but for its places, whose order stays.
func TestLostDoNotMatter(t *testing.T) {
	d := drawer(9)
	all := [][]api.Event{whole(t), events(t, "begin t; begin u; commit u; abort t"), events(t, "object a counter 0; begin t; begin u; op u a add 1 -> ok; commit t")}
	for range 2000 {
		all = append(all, d.history(d.below(60)))
	}
	left := 0
	for _, l := range all {
		c := made(t, l)
		rest := l
		for _, name := range lost(l) {
			expectOrder(t, c, made(t, without(l, name)))
			rest = without(rest, name)
			expectOrder(t, c, made(t, rest))
			left++
		}
		x, err := project.Dense(c)
		if y := made(t, rest); err != api.OK || !alike(x, y) {
			t.Errorf("%s: %s, %v; without who does not commit: %s", text(l), show(x), err, show(y))
		}
		if m, err := project.Back(c); err != api.OK || !alikeEvents(m, rest) {
			t.Errorf("Back(%s): %s, %v; want %s", show(c), text(m), err, text(rest))
		}
	}
	if left < 2000 {
		t.Error("the test itself is wrong:", left)
	}
}

// TestMoreLost: with events, laid anywhere, of one more that aborts, or never ends, the case is the same likewise.
func TestMoreLost(t *testing.T) {
	d := drawer(10)
	for range 2000 {
		l := d.history(d.below(40))
		c := made(t, l)
		last := api.Event{Kind: pick(&d, []int{begins, aborts}), Name: "lost"}
		at := 0 // objects stay ahead
		for at < len(l) && l[at].Kind == objects {
			at++
		}
		there := slices.Clone(l[:at])
		at += d.below(len(l) - at + 1)
		m := slices.Insert(slices.Clone(l), at, begin("lost"))
		for range d.below(4) {
			if len(there) > 0 {
				at += 1 + d.below(len(m)-at)
				o := pick(&d, there)
				m = slices.Insert(m, at, api.Event{Kind: ops, Name: "lost", Object: o.Name, Op: d.opAt(o.First.Type)})
			}
		}
		if last.Kind == aborts {
			m = slices.Insert(m, at+1+d.below(len(m)-at), last)
		}
		expectOrder(t, c, made(t, m))
	}
}

// What is handed in, and what is answered.

// fill writes over a list, and over its spare room.
func fill[T any](l []T, x T) {
	l = l[:cap(l)]
	for i := range l {
		l[i] = x
	}
}

// writers write over a case, a list each, with the spare room; what a list's parts point to stays.
func writers(c api.Case) []func() {
	l := []func(){
		func() { fill(c.Names, "marred") },
		func() {
			for i, first := 0, c.First[:cap(c.First)]; i < len(first); i++ {
				first[i].Type, first[i].N = 9, 9
			}
		},
		func() {
			for i, trans := 0, c.Trans[:cap(c.Trans)]; i < len(trans); i++ {
				trans[i].Name, trans[i].Begin, trans[i].Commit = "marred", -7, -7
			}
		},
	}
	for _, s := range c.First {
		l = append(l, func() { fill(s.L, 77) })
	}
	for _, x := range c.Trans {
		l = append(l, func() { fill(x.Acts, api.Act{Object: 77}) }, func() { fill(x.At, 77) })
	}
	return l
}

// marCase writes over all of a case.
func marCase(c api.Case) {
	for _, write := range writers(c) {
		write()
	}
}

// writersOfEvents write over events, and over the numbers of each.
func writersOfEvents(l []api.Event) []func() {
	w := []func(){func() {
		for i, e := 0, l[:cap(l)]; i < len(e); i++ {
			e[i].Kind, e[i].Name, e[i].Object, e[i].Op, e[i].First.Type, e[i].First.N = 9, "marred", "marred", api.Op{Kind: 9}, 9, 9
		}
	}}
	for _, e := range l {
		w = append(w, func() { fill(e.First.L, 77) })
	}
	return w
}

// marEvents writes over all of a list of events.
func marEvents(l []api.Event) {
	for _, write := range writersOfEvents(l) {
		write()
	}
}

// roomy is a list with something in the room behind it.
func roomy[T any](l []T, behind ...T) []T {
	return append(slices.Clone(l), behind...)[:len(l)]
}

// roomyCase is a case with something in the room behind each list.
func roomyCase(c api.Case) api.Case {
	c = api.Case{Names: roomy(c.Names, "behind", "T"), First: roomy(c.First, first(9, 1)), Trans: roomy(c.Trans, api.Trans{Name: "behind"})}
	for i := range c.First {
		c.First[i].L = roomy(c.First[i].L, 5, 4)
	}
	for i := range c.Trans {
		x := &c.Trans[i]
		x.Acts, x.At = roomy(x.Acts, act(0, 1), api.Act{}), roomy(x.At, 3, -1)
	}
	return c
}

// wideCase is a case whose lists reach to the ends of their room.
func wideCase(c api.Case) api.Case {
	c = api.Case{Names: c.Names[:cap(c.Names)], First: slices.Clone(c.First[:cap(c.First)]), Trans: slices.Clone(c.Trans[:cap(c.Trans)])}
	for i, s := range c.First {
		c.First[i].L = s.L[:cap(s.L)]
	}
	for i, x := range c.Trans {
		c.Trans[i].Acts, c.Trans[i].At = x.Acts[:cap(x.Acts)], x.At[:cap(x.At)]
	}
	return c
}

// someCases are cases that may be, and some that may not.
func someCases(t testing.TB) []api.Case {
	t.Helper()
	all := []api.Case{{}, wholeCase(), rooms(), placed(2, []int{0, 5, 9}, []int{1, 3, 7}), {Names: []string{"a", "b"}, First: []api.State{first(2, 2, 1), first(1)}}}
	for _, x := range chapter()[5:] {
		all = append(all, with(x.change))
	}
	d := drawer(11)
	for range 100 {
		all = append(all, d.sparse(made(t, d.history(60))), d.wildCase())
	}
	return all
}

// TestEventsStay: Make changes neither the events, nor their lists, nor the room behind them; and what it told does not change when they do.
func TestEventsStay(t *testing.T) {
	d := drawer(12)
	all := [][]api.Event{nil, whole(t), append(whole(t), begin("t")), {object("a", first(2, 3, 1))}, events(t, "object a queue 3 1 2; object b map 1 10; begin t; op t a len -> 3; commit t")}
	for range 100 {
		all = append(all, d.history(60))
	}
	for _, want := range all {
		l := roomy(want, begin("behind"), api.Event{Kind: 9, First: first(9, 1)})
		for i := range l {
			l[i].First.L = roomy(l[i].First.L, 5, 4)
		}
		wide := l[:cap(l)]
		var numbers [][]int
		for _, e := range l {
			numbers = append(numbers, slices.Clone(e.First.L[:cap(e.First.L)]))
		}
		kept := deepEvents(wide)
		c, f := project.Make(l)
		if !alikeEvents(wide, kept) {
			t.Errorf("%s has become %s", text(kept), text(wide))
		}
		for i, e := range l {
			if !slices.Equal(e.First.L[:cap(e.First.L)], numbers[i]) {
				t.Errorf("the numbers of %d have become %v", i, e.First.L[:cap(e.First.L)])
			}
		}
		marEvents(l)
		if f != history.Check(want) || f.Err == api.OK && !alike(c, asked(want)) || f.Err != api.OK && !alike(c, api.Case{}) {
			t.Errorf("%s: %s, %v", text(want), show(c), f)
		}
	}
}

// TestCaseStays: no call changes the case, its lists, or the room behind them; and what was told does not change when they do.
func TestCaseStays(t *testing.T) {
	for _, want := range someCases(t) {
		c := roomyCase(want)
		wide := wideCase(c)
		kept := deepCase(wide)
		err := project.Check(c)
		x, _ := project.Dense(c)
		l, _ := project.Back(c)
		project.Size(c)
		if !alike(wide, kept) || !alike(wideCase(c), kept) || !alike(c, want) {
			t.Errorf("%s has become %s", show(kept), show(wide))
		}
		marCase(c)
		if err != wrong(want) {
			t.Errorf("Check(%s): %v", show(want), err)
		}
		if err == api.OK && (!alike(x, dense(want)) || !alikeEvents(l, back(want))) {
			t.Errorf("%s: %s, %s", show(want), show(x), text(l))
		}
	}
}

// bare tells whether nothing stands in a list's spare room.
func bare[T any](l []T, is func(T) bool) bool { return !slices.ContainsFunc(l[len(l):cap(l)], is) }

// bareCase tells whether nothing stands in the spare room of a case's lists.
func bareCase(c api.Case) bool {
	number := func(n int) bool { return n != 0 }
	is := bare(c.Names, func(s string) bool { return s != "" }) && bare(c.First, func(s api.State) bool { return s.Type != 0 || s.N != 0 || s.L != nil }) && bare(c.Trans, func(x api.Trans) bool {
		return x.Name != "" || x.Begin != 0 || x.Commit != 0 || x.Acts != nil || x.At != nil
	})
	for _, s := range c.First {
		is = is && bare(s.L, number)
	}
	for _, x := range c.Trans {
		is = is && bare(x.At, number) && bare(x.Acts, func(a api.Act) bool { return a != api.Act{} })
	}
	return is
}

// expectApart holds that no two lists of an answer share memory: what is written into one, its spare room too, changes that one alone, as in a copy whose lists are apart.
func expectApart(t testing.TB, c api.Case) {
	t.Helper()
	if !bareCase(c) {
		t.Errorf("%s: something stands in spare room", show(c))
	}
	copied := deepCase(c)
	a, b := writers(c), writers(copied)
	for n := range a {
		a[n]()
		b[n]()
		if !alike(c, copied) {
			t.Fatalf("two lists share memory: %s; want %s", show(c), show(copied))
		}
	}
}

// TestNewMemory: what is told shares nothing with what is told later, or was told earlier, and no two of its lists share anything.
func TestNewMemory(t *testing.T) {
	d := drawer(13)
	all := [][]api.Event{whole(t), events(t, world())}
	for range 200 {
		all = append(all, d.history(60))
	}
	for _, l := range all {
		want := asked(l)
		kept, _ := project.Make(l)
		keptDense, _ := project.Dense(want)
		keptBack, _ := project.Back(want)
		for range 2 {
			c, _ := project.Make(l)
			expectApart(t, c)
			x, _ := project.Dense(want)
			expectApart(t, x)
			m, _ := project.Back(want)
			copied := deepEvents(m)
			if !bare(m, func(e api.Event) bool { return e.Kind != 0 || e.Name != "" || e.Object != "" || e.First.L != nil }) {
				t.Errorf("%s: something stands in spare room", text(m))
			}
			a, b := writersOfEvents(m), writersOfEvents(copied)
			for n := range a {
				a[n]()
				b[n]()
				if !alikeEvents(m, copied) {
					t.Fatalf("two lists share memory: %s; want %s", text(m), text(copied))
				}
			}
		}
		if !alike(kept, want) || !alike(keptDense, dense(want)) || !alikeEvents(keptBack, back(want)) {
			t.Errorf("two answers share memory: %s, %s, %s", show(kept), show(keptDense), text(keptBack))
		}
	}
}

// TestEmptyLists: an empty list that is told is not the one that was handed in, with its room.
func TestEmptyLists(t *testing.T) {
	numbers := []int{1, 2, 3}
	empty := api.State{Type: 4, L: numbers[:0]}
	c := api.Case{Names: []string{"a"}, First: []api.State{empty}, Trans: []api.Trans{{Name: "t", Commit: 1, Acts: []api.Act{act(0, 1)}[:0], At: numbers[:0]}}}
	x, _ := project.Dense(c)
	l, _ := project.Back(c)
	y, _ := project.Make([]api.Event{object("a", empty), begin("t"), commit("t")})
	for _, z := range []api.Case{x, y} {
		marCase(z)
	}
	marEvents(l)
	if !slices.Equal(numbers, []int{1, 2, 3}) {
		t.Error(numbers)
	}
}

// TestNamesNotKept: a name that is told is not a piece of the text that was handed in.
func TestNamesNotKept(t *testing.T) {
	var bytes [][]byte
	shaky := func(s string) string {
		b := []byte(s)
		bytes = append(bytes, b)
		return unsafe.String(&b[0], len(b))
	}
	l := whole(t)
	for i := range l {
		l[i].Name = shaky(l[i].Name)
		if l[i].Object != "" {
			l[i].Object = shaky(l[i].Object)
		}
	}
	given := wholeCase()
	for i := range given.Names {
		given.Names[i] = shaky(given.Names[i])
	}
	for i := range given.Trans {
		given.Trans[i].Name = shaky(given.Trans[i].Name)
	}
	c, _ := project.Make(l)
	x, _ := project.Dense(given)
	m, _ := project.Back(given)
	for _, b := range bytes {
		copy(b, strings.Repeat("?", len(b)))
	}
	if !alike(c, wholeCase()) || !alike(x, dense(wholeCase())) || !alikeEvents(m, back(wholeCase())) {
		t.Errorf("%s; %s; %s", show(c), show(x), text(m))
	}
}

// P1: what a call answers depends on its arguments alone, also behind one that was refused.
func TestAgain(t *testing.T) {
	for range 3 {
		refuse(t, events(t, "begin t; begin t"), api.ErrExists, 1)
		accept(t, made(t, whole(t)))
		reject(t, api.Case{Names: []string{"a"}}, api.ErrArg)
		accept(t, rooms())
		accept(t, made(t, nil))
	}
}

// TestAnyEvents: Make does not panic, whatever the events.
func TestAnyEvents(t *testing.T) {
	d := drawer(14)
	counts := map[api.Errno]int{}
	for range 20000 {
		var l []api.Event
		for range d.below(6) {
			l = append(l, d.wild())
		}
		holdEvents(t, l)
		counts[history.Check(l).Err]++
	}
	for _, err := range []api.Errno{api.OK, api.ErrArg, api.ErrName, api.ErrWord, api.ErrUnknown} {
		if counts[err] < 100 {
			t.Error("the test itself is wrong:", counts)
		}
	}
}

func FuzzProject(f *testing.F) {
	f.Add(uint64(1), 10, 0)
	f.Add(uint64(77), 60, 2)
	f.Add(uint64(5), 3, 9)
	f.Fuzz(func(t *testing.T, seed uint64, count, more int) {
		d := drawer(seed)
		l := d.history(count & 63)
		c := made(t, l)
		accept(t, c)
		c = d.sparse(c)
		accept(t, c)
		for range more & 3 {
			d.spoil(&c)
		}
		kept := deepCase(c)
		hold(t, c)
		if !alike(c, kept) {
			t.Errorf("%s has become %s", show(kept), show(c))
		}
		hold(t, d.wildCase())
		for range more & 7 {
			l = slices.Insert(l, d.below(len(l)+1), d.wild())
		}
		holdEvents(t, l)
	})
}
