package history_test

import (
	"slices"
	"strconv"
	"testing"

	"armistice/api"
	"armistice/history"
)

// P13.2: New, Add, Len, Running and Life.

func TestNew(t *testing.T) {
	d := history.New()
	if d == nil || d == history.New() {
		t.Fatal("New must answer a desk, and another one each time")
	}
	expectDesk(t, d, nil)
	if l := d.Running(); len(l) != 0 {
		t.Error(l)
	}
}

// TestDeskExamples: the chapter's Lives, of a desk.
func TestDeskExamples(t *testing.T) {
	d := laid(t, events(t, "object a counter 1; begin t; begin u; op u a read -> 1; abort u"))
	if d.Len() != 5 || !slices.Equal(d.Running(), []string{"t"}) {
		t.Error(d.Len(), d.Running())
	}
	for name, want := range map[string]api.Life{"t": {Name: "t", Begin: 1, End: -1}, "u": {Name: "u", Begin: 2, End: 4, Ops: 1}} {
		if x, is := d.Life(name); x != want || !is {
			t.Errorf("Life(%s): %v, %v; want %v", name, x, is, want)
		}
	}
	if x, is := d.Life("a"); x != (api.Life{}) || is {
		t.Error("an object lives:", x, is)
	}
}

// TestStep: what a desk tells behind each event of a history.
func TestStep(t *testing.T) {
	l := whole(t)
	d := history.New()
	for at, e := range l {
		if err := d.Add(e); err != api.OK {
			t.Fatalf("Add of %d: %v", at, err)
		}
		expectDesk(t, d, l[:at+1])
	}
}

// TestRunning: of none, of one, of all, and of some that are over in between.
func TestRunning(t *testing.T) {
	for s, want := range map[string][]string{
		"begin t":                                 {"t"},
		"begin z; begin b; begin a":               {"z", "b", "a"},
		"begin z; begin b; begin a; commit z":     {"b", "a"},
		"begin z; begin b; begin a; abort b":      {"z", "a"},
		"begin z; begin b; begin a; commit a":     {"z", "b"},
		"begin z; commit z":                       nil,
		"begin z; begin b; abort z; commit b":     nil,
		"begin z; commit z; begin b; begin a":     {"b", "a"},
		world():                                   nil,
		world() + "; begin q; begin c":            {"q", "c"},
		"begin z; begin b; commit b; begin a":     {"z", "a"},
		"begin a; begin b; abort a; begin z":      {"b", "z"},
		"object t set; begin u; op u t size -> 0": {"u"},
	} {
		l := events(t, s)
		if got := laid(t, l).Running(); !slices.Equal(got, want) {
			t.Errorf("%s: %v; want %v", s, got, want)
		}
		expectDesk(t, laid(t, l), l)
	}
}

// TestRefusedChangesNothing: behind each event of a history, whatever is refused changes nothing, and what follows is taken as if nothing had been asked.
func TestRefusedChangesNothing(t *testing.T) {
	l := whole(t)
	more := append(bad(), begin("t"), begin("u"), commit("n"), abort("u"), commit("t"), op("n", "c", 1), op("t", "c", 1), op("v", "n", 1), op("v", "c", 11), object("c", first(1)), object("n", first(4)))
	d := history.New()
	refused := map[api.Errno]int{}
	for at := range len(l) + 1 {
		for _, e := range more {
			if err := why(l[:at], e); err != api.OK {
				expectRefused(t, d, l[:at], e, err)
				refused[err]++
			}
		}
		if at < len(l) {
			if err := d.Add(l[at]); err != api.OK {
				t.Fatalf("Add of %d: %v", at, err)
			}
			expectDesk(t, d, l[:at+1])
		}
	}
	for _, err := range []api.Errno{api.ErrArg, api.ErrLong, api.ErrForm, api.ErrWord, api.ErrName, api.ErrType, api.ErrReturn, api.ErrExists, api.ErrUnknown, api.ErrOrder} {
		if refused[err] < 5 {
			t.Error("the test itself is wrong:", refused)
		}
	}
}

// TestDeskLimits: what is one too many is refused again and again, and changes nothing; what is not is taken behind it.
func TestDeskLimits(t *testing.T) {
	l := many(maxObjects, anObject, "a")
	d := laid(t, l)
	for _, name := range []string{"b", "t0", "b"} {
		expectRefused(t, d, l, anObject(name), api.ErrLong)
	}
	expectRefused(t, d, l, anObject("a255"), api.ErrExists)
	for n := range maxTrans {
		l = append(l, begin("t"+strconv.Itoa(n)))
		if err := d.Add(l[len(l)-1]); err != api.OK {
			t.Fatal(n, err)
		}
	}
	expectDesk(t, d, l)
	for _, name := range []string{"n", "a0", "n"} {
		expectRefused(t, d, l, begin(name), api.ErrLong)
	}
	expectRefused(t, d, l, begin("t4095"), api.ErrExists)
	expectRefused(t, d, l, anObject("b"), api.ErrOrder)
	for n := range 10 {
		l = append(l, commit("t"+strconv.Itoa(n*400)))
		if err := d.Add(l[len(l)-1]); err != api.OK {
			t.Fatal(n, err)
		}
	}
	expectDesk(t, d, l)
	expectRefused(t, d, l, begin("n"), api.ErrLong)
	expectRefused(t, d, l, commit("t0"), api.ErrOrder)
}

// TestNoDesk: a desk that New did not answer: nil, zero, and a copy, at each call; that is told ahead of all that is wrong with the event.
func TestNoDesk(t *testing.T) {
	made := laid(t, whole(t))
	copied := *made
	empty := *history.New()
	for what, d := range map[string]*history.Desk{"nil": nil, "zero": {}, "new": new(history.Desk), "a copy": &copied, "a copy of an empty one": &empty} {
		for range 2 {
			for _, e := range append(append(whole(t), bad()...), commit("x"), begin("n")) {
				if err := d.Add(e); err != api.ErrNil {
					t.Errorf("%s: Add(%s): %v", what, text([]api.Event{e}), err)
				}
			}
			if n := d.Len(); n != 0 {
				t.Errorf("%s: Len %d", what, n)
			}
			if l := d.Running(); len(l) != 0 {
				t.Errorf("%s: Running %v", what, l)
			}
			for _, name := range slices.Concat(strangers, []string{"t", "u", "x"}) {
				if x, is := d.Life(name); x != (api.Life{}) || is {
					t.Errorf("%s: Life(%.40q) %v, %v", what, name, x, is)
				}
			}
		}
	}
	expectDesk(t, made, whole(t))
}

// TestTwoDesks: two desks know nothing of each other, nor of Check.
func TestTwoDesks(t *testing.T) {
	d := drawer(2)
	for range 200 {
		l, m := drawn(&d, d.below(20)), drawn(&d, d.below(20))
		one, two := history.New(), history.New()
		for i := range max(len(l), len(m)) {
			if i < len(l) {
				if err := one.Add(l[i]); err != api.OK {
					t.Fatal(err)
				}
			}
			if i < len(m) {
				if err := two.Add(m[i]); err != api.OK {
					t.Fatal(err)
				}
			}
			hold(t, m[:i%(len(m)+1)])
			expectDesk(t, one, l[:min(i+1, len(l))])
			expectDesk(t, two, m[:min(i+1, len(m))])
		}
	}
}

// TestDeskAsCheck: a desk takes or refuses each event as Check would, behind those that it took; what it tells is what Lives and Objects tell of these.
func TestDeskAsCheck(t *testing.T) {
	d := drawer(3)
	took, refused := 0, map[api.Errno]int{}
	for range 1000 {
		desk := history.New()
		var l []api.Event
		for range d.below(40) {
			e := event(&d)
			if d.below(3) == 0 {
				e = likely(&d, l)
			}
			f := history.Check(append(slices.Clip(l), e))
			if f.Err != api.OK && f.At != len(l) {
				t.Fatalf("%s, which the desk took: %v", text(l), f)
			}
			if err := desk.Add(e); err != f.Err {
				t.Fatalf("%s: Add(%s): %v; Check %v", text(l), text([]api.Event{e}), err, f)
			}
			if f.Err == api.OK {
				l = append(l, e)
				took++
			} else {
				refused[f.Err]++
			}
		}
		accept(t, l)
		expectDesk(t, desk, l)
		expectLivesOf(t, desk, l)
	}
	for _, err := range []api.Errno{api.ErrArg, api.ErrForm, api.ErrWord, api.ErrName, api.ErrType, api.ErrReturn, api.ErrExists, api.ErrUnknown, api.ErrOrder} {
		if took < 1000 || refused[err] < 10 {
			t.Error("the test itself is wrong:", took, refused)
		}
	}
}

// expectLivesOf holds what a desk tells against Lives of the events that it took.
func expectLivesOf(t testing.TB, d *history.Desk, l []api.Event) {
	t.Helper()
	lives, f := history.Lives(l)
	if f != (api.Fault{}) {
		t.Errorf("%s, which a desk took: %v", text(l), f)
	}
	var running []string
	for _, want := range lives {
		if x, is := d.Life(want.Name); x != want || !is {
			t.Errorf("%s: Life(%s) %v, %v; Lives tells %v", text(l), want.Name, x, is, want)
		}
		if want.End < 0 {
			running = append(running, want.Name)
		}
	}
	if got := d.Running(); !slices.Equal(got, running) {
		t.Errorf("%s: Running %v; of Lives run %v", text(l), got, running)
	}
}

// TestAskedOften: to ask a desk changes nothing.
func TestAskedOften(t *testing.T) {
	l := whole(t)
	d := laid(t, l)
	for range 3 {
		expectDesk(t, d, l)
		expectLivesOf(t, d, l)
	}
	if err := d.Add(begin("nobody")); err != api.OK {
		t.Error(err)
	}
	expectDesk(t, d, append(slices.Clip(l), begin("nobody")))
}
