package history_test

import (
	"slices"
	"testing"

	"armistice/api"
	"armistice/history"
)

// P13.3: what follows.

// without are the events of a history but those of one transaction.
func without(l []api.Event, name string) []api.Event {
	return slices.DeleteFunc(slices.Clone(l), func(e api.Event) bool { return e.Kind != objects && e.Name == name })
}

// TestBeginnings: a beginning of a history is one.
func TestBeginnings(t *testing.T) {
	d := drawer(4)
	all := [][]api.Event{whole(t)}
	for range 300 {
		all = append(all, drawn(&d, d.below(40)))
	}
	for _, l := range all {
		for n := range len(l) + 1 {
			if f := history.Check(l[:n]); f != (api.Fault{}) {
				t.Fatalf("%s: %v", text(l[:n]), f)
			}
			accept(t, l[:n])
		}
	}
}

// TestWithout: a history without the events of one transaction, or of some, is one; the others live as they did, but for their places.
func TestWithout(t *testing.T) {
	d := drawer(5)
	all := [][]api.Event{whole(t)}
	for range 1000 {
		all = append(all, drawn(&d, d.below(40)))
	}
	left := 0
	for _, l := range all {
		for _, name := range someNames() {
			m := without(l, name)
			left += len(l) - len(m)
			accept(t, m)
			expectOthers(t, l, m, name)
			accept(t, without(m, pick(&d, someNames())))
		}
	}
	if left < 2000 {
		t.Error("the test itself is wrong:", left)
	}
}

// expectOthers holds that of two histories, the second one being the first without one transaction, the others are told alike.
func expectOthers(t *testing.T, l, m []api.Event, name string) {
	t.Helper()
	before, _ := history.Lives(l)
	after, _ := history.Lives(m)
	before = slices.DeleteFunc(before, func(x api.Life) bool { return x.Name == name })
	if !slices.EqualFunc(before, after, func(x, y api.Life) bool {
		return x.Name == y.Name && x.Committed == y.Committed && x.Ops == y.Ops && (x.End < 0) == (y.End < 0)
	}) {
		t.Errorf("%s: %v; without %s: %v", text(l), before, name, after)
	}
	a, _ := history.Objects(l)
	b, _ := history.Objects(m)
	if !slices.Equal(a, b) {
		t.Errorf("%s: %v; without %s: %v", text(l), a, name, b)
	}
}

// TestOverStays: who is over stays so, whatever is laid, or refused, behind it.
func TestOverStays(t *testing.T) {
	d := drawer(6)
	over := 0
	for range 500 {
		desk := history.New()
		var l []api.Event
		ended := map[string]api.Life{}
		for range 60 {
			e := event(&d)
			if d.below(3) == 0 {
				e = likely(&d, l)
			}
			if desk.Add(e) == api.OK {
				l = append(l, e)
			}
			for name, was := range ended {
				if x, is := desk.Life(name); x != was || !is {
					t.Fatalf("%s: %s was %v, and is %v, %v", text(l), name, was, x, is)
				}
				if slices.Contains(desk.Running(), name) {
					t.Fatalf("%s: %s runs", text(l), name)
				}
			}
			if x, is := desk.Life(e.Name); is && x.End >= 0 && x != ended[e.Name] {
				ended[e.Name] = x
				over++
			}
		}
		for name := range ended {
			for _, e := range []api.Event{begin(name), commit(name), abort(name), op(name, "a", 1), op(name, "n", 5)} {
				if err := desk.Add(e); err != why(l, e) || err == api.OK {
					t.Errorf("%s: Add(%s): %v", text(l), text([]api.Event{e}), err)
				}
			}
		}
		expectDesk(t, desk, l)
	}
	if over < 500 {
		t.Error("the test itself is wrong:", over)
	}
}

// TestTaken: what a desk takes, event by event, is a history, and a history is taken, event by event.
func TestTaken(t *testing.T) {
	d := drawer(7)
	for range 500 {
		l := drawn(&d, d.below(50))
		accept(t, l)
		expectLivesOf(t, laid(t, l), l)
		desk := history.New()
		var took []api.Event
		for range 60 {
			if e := event(&d); desk.Add(e) == api.OK {
				took = append(took, e)
			}
		}
		accept(t, took)
		expectLivesOf(t, desk, took)
		expectDesk(t, desk, took)
	}
}

// What is handed in, and what is answered.

// like tells whether two lists of events are the same, nil and empty being so.
func like(a, b []api.Event) bool {
	return slices.EqualFunc(a, b, func(x, y api.Event) bool {
		same := x.First.Type == y.First.Type && x.First.N == y.First.N && slices.Equal(x.First.L, y.First.L)
		return same && x.Kind == y.Kind && x.Name == y.Name && x.Object == y.Object && x.Op == y.Op
	})
}

// deep is a copy of events that shares no list with them.
func deep(l []api.Event) []api.Event {
	l = slices.Clone(l)
	for i := range l {
		l[i].First.L = slices.Clone(l[i].First.L)
	}
	return l
}

// mar writes over events and the numbers of their states, with the spare room of both.
func mar(l []api.Event) {
	l = l[:cap(l)]
	for i := range l {
		numbers := l[i].First.L[:cap(l[i].First.L)]
		for j := range numbers {
			numbers[j] = 77
		}
		l[i] = api.Event{Kind: 9, Name: "marred", First: first(9, 1)}
	}
}

// TestEventsStay: no call changes the events, their lists, or the room behind them; nor is it told otherwise when they are written over later.
func TestEventsStay(t *testing.T) {
	for _, want := range [][]api.Event{whole(t), append(whole(t), begin("t")), append(whole(t), bad()...), {object("a", first(2, 3, 1))}, events(t, "object a queue 3 1 2; object b map 1 10; begin t; op t a len -> 3")} {
		room := append(deep(want), begin("n"), api.Event{Kind: 9})
		spare := slices.Clone(room[len(want):])
		numbers := make([][]int, len(want))
		for i := range want {
			numbers[i] = append(slices.Clone(want[i].First.L), 5, 4)
			if len(want[i].First.L) > 0 {
				room[i].First.L = numbers[i][:len(want[i].First.L)]
			}
		}
		l := room[:len(want)]
		f := history.Check(l)
		lives, _ := history.Lives(l)
		names, _ := history.Objects(l)
		d := history.New()
		var took []api.Event
		for i, e := range l {
			if d.Add(e) == api.OK {
				took = append(took, want[i])
			}
		}
		if !like(l, want) || !like(room[len(want):], spare) {
			t.Errorf("%s has become %s", text(want), text(room))
		}
		for i := range want {
			if !slices.Equal(numbers[i], append(slices.Clone(want[i].First.L), 5, 4)) {
				t.Errorf("the numbers of %d have become %v", i, numbers[i])
			}
		}
		mar(room)
		if f != wrong(want) {
			t.Errorf("%s: %v", text(want), f)
		}
		if f.Err == api.OK {
			again, _ := lived(want)
			if !slices.Equal(lives, again) || !slices.Equal(names, named(want, objects)) {
				t.Errorf("%s: %v, %v", text(want), lives, names)
			}
		}
		expectDesk(t, d, took)
	}
}

// TestNewMemory: to write into what is told, its spare room too, changes nothing that is told later, nor what was told earlier.
func TestNewMemory(t *testing.T) {
	l := whole(t)
	d := laid(t, l)
	lives, _ := history.Lives(l)
	names, _ := history.Objects(l)
	running := d.Running()
	for range 2 {
		a, _ := history.Lives(l)
		b, _ := history.Objects(l)
		c := d.Running()
		if slices.ContainsFunc(a[len(a):cap(a)], func(x api.Life) bool { return x != api.Life{} }) {
			t.Error("something stands in spare room:", a[:cap(a)])
		}
		for _, x := range [][]string{b[len(b):cap(b)], c[len(c):cap(c)]} {
			if slices.ContainsFunc(x, func(s string) bool { return s != "" }) {
				t.Error("something stands in spare room:", x)
			}
		}
		a, b, c = a[:cap(a)], b[:cap(b)], c[:cap(c)]
		for i := range a {
			a[i] = api.Life{Name: "marred", Begin: 7, End: 7, Ops: 7}
		}
		for i := range b {
			b[i] = "marred"
		}
		for i := range c {
			c[i] = "marred"
		}
	}
	if x, _ := d.Life("t"); x != lives[0] {
		t.Error(x)
	}
	expectDesk(t, d, l)
	accept(t, l)
	want, left := lived(l)
	if !slices.Equal(lives, want) || !slices.Equal(names, named(l, objects)) || !slices.Equal(running, left) {
		t.Error("two answers share memory:", lives, names, running)
	}
}

// TestToldStays: what a desk has told does not change as more is laid.
func TestToldStays(t *testing.T) {
	l := whole(t)
	d := history.New()
	var running [][]string
	var lives []api.Life
	for _, e := range l {
		running = append(running, d.Running())
		x, _ := d.Life("t")
		lives = append(lives, x)
		d.Add(e)
	}
	for n := range l {
		_, want := lived(l[:n])
		x, _ := life(l[:n], "t")
		if !slices.Equal(running[n], want) || lives[n] != x {
			t.Errorf("%d: %v, %v; want %v, %v", n, running[n], lives[n], want, x)
		}
	}
}

// P1: what a call answers depends on its arguments alone, also behind one that was refused.
func TestAgain(t *testing.T) {
	for range 3 {
		refuse(t, events(t, "begin t; begin t"), api.ErrExists, 1)
		accept(t, whole(t))
		refuse(t, events(t, "commit t"), api.ErrUnknown, 0)
		accept(t, whole(t)[:6])
		accept(t, nil)
	}
}

// TestAnyEvents: no call panics, whatever the events; what they tell is held against the chapter's words.
func TestAnyEvents(t *testing.T) {
	d := drawer(8)
	numbers := []int{least, -1, 0, 1, 2, 3, 4, 5, 6, 7, 13, 15, 16, most, most + 1, greatest}
	for range 20000 {
		var l []api.Event
		for range d.below(6) {
			l = append(l, api.Event{
				Kind: d.below(8) - 1, Name: pick(&d, strangers), Object: pick(&d, strangers),
				Op:    api.Op{Kind: pick(&d, numbers), A: pick(&d, numbers), B: pick(&d, numbers), Ret: api.Ret{Kind: d.below(5) - 1, N: pick(&d, numbers)}},
				First: api.State{Type: d.below(8) - 1, N: pick(&d, numbers), L: numbers[:d.below(4)]},
			})
			if e := &l[len(l)-1]; d.below(2) == 0 {
				e.Op, e.First.N, e.Object = api.Op{}, 0, ""
			}
		}
		hold(t, l)
		desk := history.New()
		var took []api.Event
		for _, e := range l {
			if err := desk.Add(e); err != why(took, e) {
				t.Errorf("%s: Add(%s): %v", text(took), text([]api.Event{e}), err)
			} else if err == api.OK {
				took = append(took, e)
			}
		}
		expectDesk(t, desk, took)
	}
}

func FuzzHistory(f *testing.F) {
	f.Add(uint64(1), 10, 2)
	f.Add(uint64(77), 60, 0)
	f.Add(uint64(5), 3, 9)
	f.Fuzz(func(t *testing.T, seed uint64, count, more int) {
		d := drawer(seed)
		l := drawn(&d, count&63)
		accept(t, l)
		for range more & 7 {
			l = slices.Insert(l, d.below(len(l)+1), event(&d))
		}
		kept := deep(l)
		hold(t, l)
		desk := history.New()
		var took []api.Event
		for _, e := range l {
			err := why(took, e)
			if got := desk.Add(e); got != err {
				t.Errorf("%s: Add(%s): %v; want %v", text(took), text([]api.Event{e}), got, err)
			}
			if err == api.OK {
				took = append(took, e)
			}
		}
		accept(t, took)
		expectDesk(t, desk, took)
		if !like(l, kept) {
			t.Errorf("%s has become %s", text(kept), text(l))
		}
	})
}
