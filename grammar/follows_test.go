package grammar_test

import (
	"bytes"
	"slices"
	"strings"
	"testing"

	"armistice/api"
	"armistice/grammar"
)

// P12.4: what follows.

// drawn are events that may be, each list longer than the one ahead.
func drawn(d *drawer, count int) [][]api.Event {
	all := make([][]api.Event, count)
	for i := range all {
		for range i % 12 {
			all[i] = append(all[i], event(d))
		}
	}
	return all
}

// TestBack: what is printed is parsed as it was.
func TestBack(t *testing.T) {
	d := drawer(5)
	for _, l := range drawn(&d, 3000) {
		text, err := grammar.Print(l)
		if err != api.OK {
			t.Fatalf("%v: %v", l, err)
		}
		expectParse(t, text, l, api.Fault{})
		expectParse(t, strings.TrimSuffix(text, "\n"), l, api.Fault{})
		expectParse(t, "# ahead\n\n"+strings.ReplaceAll(text, "\n", "\n\n# x\n"), l, api.Fault{})
	}
	for _, e := range one() {
		line, _ := grammar.Line(e)
		expectParse(t, line, []api.Event{e}, api.Fault{})
	}
}

// TestForth: what is parsed is printed in one form, whatever remarks and lines without a byte there were, which is parsed the same, and printed in the same bytes.
func TestForth(t *testing.T) {
	d := drawer(6)
	good := 0
	for range 20000 {
		var text strings.Builder
		for range d.below(5) {
			text.WriteString(drawnLine(&d) + pick(&d, []string{"\n", "\n\n", "\n# a remark\n", "\n#\n\n"}))
		}
		l, f := grammar.Parse([]byte(text.String()))
		if f.Err != api.OK {
			continue
		}
		good++
		for _, e := range l {
			if err := grammar.Check(e); err != api.OK {
				t.Fatalf("%q: %v, which may not be: %v", text.String(), e, err)
			}
		}
		form, err := grammar.Print(l)
		if err != api.OK {
			t.Fatalf("%q: %v", text.String(), err)
		}
		expectParse(t, form, l, api.Fault{})
		again, _ := grammar.Parse([]byte(form))
		expectPrint(t, again, form, api.OK)
	}
	if good < 3000 {
		t.Error("the test itself is wrong:", good)
	}
}

// TestLinesUnlike: events that are not the same have lines that are not the same.
func TestLinesUnlike(t *testing.T) {
	d := drawer(7)
	byLine := map[string]api.Event{}
	for range 20000 {
		e := event(&d)
		line, err := grammar.Line(e)
		if other, ok := byLine[line]; err != api.OK || ok && !like([]api.Event{e}, []api.Event{other}) {
			t.Fatalf("%q: %v and %v", line, e, other)
		}
		byLine[line] = e
	}
	if len(byLine) < 3000 {
		t.Error("the test itself is wrong:", len(byLine))
	}
}

// TestTwoTexts: events of two texts, the first of which ends with a line feed, are those of both; what is wrong with the second one is wrong there, if the first one is not.
func TestTwoTexts(t *testing.T) {
	d := drawer(8)
	for range 6000 {
		a, b := drawnLine(&d)+"\n", drawnLine(&d)+pick(&d, []string{"", "\n"})
		ahead, f := grammar.Parse([]byte(a))
		behind, g := grammar.Parse([]byte(b))
		switch {
		case f.Err == api.OK && g.Err == api.OK:
			expectParse(t, a+b, slices.Concat(ahead, behind), api.Fault{})
		case f.Err == api.OK:
			expectParse(t, a+b, nil, fault(g.Err, len(a)+g.At))
		default:
			holdText(t, a+b)
		}
	}
	for text, l := range ahead() {
		for other, m := range ahead() {
			expectParse(t, text+other, slices.Concat(l, m), api.Fault{})
		}
	}
}

// TestTwoLists: the text of two lists, one behind the other, is that of both.
func TestTwoLists(t *testing.T) {
	d := drawer(9)
	for _, l := range drawn(&d, 50) {
		for _, m := range drawn(&d, 30) {
			expectPrint(t, slices.Concat(l, m), mustPrint(t, l)+mustPrint(t, m), api.OK)
		}
	}
}

// What is handed in, and what is answered.

// TestBytesStay: Parse neither changes what it is handed, nor reads the room behind it, nor looks at it later.
func TestBytesStay(t *testing.T) {
	texts := []string{"", "\n", strings.Join(lines(), "\n"), strings.Join(lines(), "\n") + "\n", "begin t\ngo", "object a set 1 2 x\n", "op t a add 1 -> 1", "object a map 1 10 2 20\n# x\nbegin long_name_of_a_transaction"}
	for _, text := range texts {
		for _, behind := range []string{"x", " x\n", "\nbegin u\n", "\n a", "\x00"} {
			room := []byte(text + behind)
			l, f := grammar.Parse(room[:len(text)])
			if want, wrong := parsed(text); !like(l, want) || f != wrong {
				t.Errorf("Parse(%q), %q behind it: %v, %v", text, behind, l, f)
			}
			if string(room) != text+behind {
				t.Errorf("Parse(%q) leaves %q", text, room)
			}
			for i := range room {
				room[i] = '#'
			}
			if want, _ := parsed(text); !like(l, want) {
				t.Errorf("Parse(%q): what it told hangs on what was handed in: %v", text, l)
			}
		}
	}
}

// mar writes over events, the numbers of their states, and the spare room of both.
func mar(l []api.Event) {
	l = l[:cap(l)]
	for i := range l {
		numbers := l[i].First.L[:cap(l[i].First.L)]
		for j := range numbers {
			numbers[j] = 77
		}
		l[i] = api.Event{Kind: 9, Name: "marred", First: first(9, 1)}
	}
}

// TestParseNew: what Parse tells is new memory: to write into it, its spare room too, changes no other answer, nor a list of another event of the same one.
func TestParseNew(t *testing.T) {
	text := strings.Repeat("object a set 1 2 3\nobject b queue 1 2 3\nobject c map 1 2\nobject d queue\nbegin t\n", 3)
	want, _ := parsed(text)
	one, _ := grammar.Parse([]byte(text))
	two, _ := grammar.Parse([]byte(text))
	for i := range one {
		mar(one[i : i+1 : i+1])
		for j, e := range one {
			if j > i && !like([]api.Event{e}, want[j:j+1]) {
				t.Fatal("one answer shares memory:", i, j, e)
			}
		}
	}
	mar(one)
	three, _ := grammar.Parse([]byte(text))
	if !like(two, want) || !like(three, want) {
		t.Error("two answers share memory")
	}
	for i := range want {
		spare := two[i].First.L[len(two[i].First.L):cap(two[i].First.L)]
		if slices.ContainsFunc(spare, func(n int) bool { return n != 0 }) {
			t.Error("something stands in spare room:", spare)
		}
	}
}

// TestEventsStay: no call changes an event, a list of them, or the room behind either; nor does an answer hang on them later.
func TestEventsStay(t *testing.T) {
	for _, whole := range [][]api.Event{one(), append(one(), begin("T")), {object("a", first(2, 3, 1))}, {{Kind: 7, First: first(4, 9, 8, 7)}}} {
		room := append(slices.Clone(whole), begin("behind"), api.Event{Kind: 9})
		numbers := map[int][]int{}
		for i := range whole {
			numbers[i] = append(slices.Clone(whole[i].First.L), 5, 4)
			if len(whole[i].First.L) > 0 {
				room[i].First.L = numbers[i][:len(whole[i].First.L)]
			}
		}
		l := room[:len(whole)]
		text, err := grammar.Print(l)
		var told []string
		for _, e := range l {
			line, _ := grammar.Line(e)
			told = append(told, line)
			grammar.Check(e)
		}
		if !like(l, whole) || !like(room[len(whole):], []api.Event{begin("behind"), {Kind: 9}}) {
			t.Errorf("%v has become %v", whole, room)
		}
		for i := range whole {
			if !slices.Equal(numbers[i], append(slices.Clone(whole[i].First.L), 5, 4)) {
				t.Errorf("%v: the numbers have become %v", whole[i], numbers[i])
			}
		}
		mar(room)
		if want, e := printed(whole); text != want || err != e {
			t.Errorf("Print(%v): %q, %v", whole, text, err)
		}
		for i, e := range whole {
			if want, _ := lined(e); told[i] != want {
				t.Errorf("Line(%v): %q", e, told[i])
			}
		}
	}
}

// P1: what a call answers depends on its arguments alone, also behind a call that was refused.
func TestAgain(t *testing.T) {
	for range 3 {
		for i, line := range lines() {
			refuseText(t, "go", api.ErrWord, 0)
			expectParse(t, line, one()[i:i+1], api.Fault{})
			expectPrint(t, []api.Event{begin("T")}, "", api.ErrName)
			accept(t, one()[i], line)
		}
	}
}

func FuzzParse(f *testing.F) {
	for _, s := range append(lines(), "", "\n# x\n\n", "go t", "begin T", "object a sets", "op t a add 1 -> 1", "op t a deposit -1 -> 1", "begin t\n begin", strings.Join(lines(), "\n")) {
		f.Add([]byte(s))
	}
	f.Fuzz(func(t *testing.T, b []byte) {
		kept := bytes.Clone(b)
		l, wrong := parsed(string(b))
		expectParse(t, string(b), l, wrong)
		if wrong.Err == api.OK {
			text, err := printed(l)
			expectPrint(t, l, text, err)
			expectParse(t, text, l, api.Fault{})
		}
		if !bytes.Equal(b, kept) {
			t.Errorf("%q has become %q", kept, b)
		}
	})
}

func FuzzCheck(f *testing.F) {
	f.Add(1, "a", "", 0, 0, 0, 0, 0, 2, 0, 1, 2, 2)
	f.Add(2, "t", "", 0, 0, 0, 0, 0, 0, 0, 0, 0, 0)
	f.Add(3, "t", "a", 3, 5, 0, 2, 1, 0, 0, 0, 0, 0)
	f.Add(6, "T", "A", 16, 1, 1, 3, 1, 6, 1, 1, 1, 1)
	f.Fuzz(func(t *testing.T, kind int, name, other string, what, a, b, ret, n, object, has, u, v, count int) {
		e := api.Event{Kind: kind, Name: name, Object: other, Op: pair(what, a, b, api.Ret{Kind: ret, N: n}), First: api.State{Type: object, N: has, L: []int{u, v}[:count&1+count>>1&1]}}
		hold(t, e)
		line, err := lined(e)
		if err == api.OK {
			expectParse(t, line, []api.Event{e}, api.Fault{})
			line += "\n"
		}
		expectPrint(t, []api.Event{e}, line, err)
	})
}
