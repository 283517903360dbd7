package grammar_test

import (
	"slices"
	"strings"
	"testing"

	"armistice/api"
	"armistice/grammar"
)

// P12.3: Print.

func TestPrintNothing(t *testing.T) {
	expectPrint(t, nil, "", api.OK)
	expectPrint(t, []api.Event{}, "", api.OK)
	expectPrint(t, one()[:0], "", api.OK)
}

func TestPrint(t *testing.T) {
	for i, e := range one() {
		expectPrint(t, []api.Event{e}, lines()[i]+"\n", api.OK)
		expectPrint(t, []api.Event{e, e, e}, strings.Repeat(lines()[i]+"\n", 3), api.OK)
	}
	expectPrint(t, one(), strings.Join(lines(), "\n")+"\n", api.OK)
	expectPrint(t, slices.Repeat(one(), 1000), strings.Repeat(strings.Join(lines(), "\n")+"\n", 1000), api.OK)
}

// someWrong are events that may not be, with each error.
func someWrong() map[api.Errno]api.Event {
	return map[api.Errno]api.Event{
		api.ErrWord:   {Kind: 6, Name: "t"},
		api.ErrArg:    {Kind: begins, Name: "t", Object: "a"},
		api.ErrName:   begin("T"),
		api.ErrType:   object("a", first(6)),
		api.ErrForm:   object("a", first(2, 2, 1)),
		api.ErrLong:   object("a", first(4, make([]int, 1001)...)),
		api.ErrReturn: op("t", "a", pair(1, 1, 0, told(1))),
	}
}

// TestPrintWrong: an event that may not be, wherever it stands, leaves no text; of two the first one's error is told.
func TestPrintWrong(t *testing.T) {
	for err, e := range someWrong() {
		for at := range len(one()) + 1 {
			expectPrint(t, slices.Insert(one(), at, e), "", err)
			for other, x := range someWrong() {
				expectPrint(t, append(slices.Insert(one(), at, e), x), "", err)
				expectPrint(t, append([]api.Event{x}, slices.Insert(one(), at, e)...), "", other)
			}
		}
		expectPrint(t, []api.Event{e}, "", err)
	}
	expectPrint(t, []api.Event{op("t", "a", pair(16, 0, 0, done()))}, "", api.ErrWord)
	expectPrint(t, []api.Event{op("t", "a", pair(13, -1, 0, told(1)))}, "", api.ErrArg)
	expectPrint(t, []api.Event{op("t", "A", pair(13, -1, 0, told(1)))}, "", api.ErrName)
}

// TestLinesAndPrint: Line and Print tell the same, and the same errors.
func TestLinesAndPrint(t *testing.T) {
	d := drawer(4)
	for range 5000 {
		e := wrongEvent(&d)
		line, err := grammar.Line(e)
		if err == api.OK {
			line += "\n"
		}
		expectPrint(t, []api.Event{e}, line, err)
	}
	for range 2000 {
		var l []api.Event
		for range d.below(6) {
			if d.below(8) == 0 {
				l = append(l, wrongEvent(&d))
			} else {
				l = append(l, event(&d))
			}
		}
		want, err := printed(l)
		expectPrint(t, l, want, err)
	}
}

// greatLine is an event with the longest line that there is, and how many bytes that has.
func greatLine() (api.Event, int) {
	return object(strings.Repeat("q", 32), first(4, slices.Repeat([]int{least}, 1000)...)), 7 + 32 + 6 + 21000
}

// TestLineLongest: no event's line comes near to what a line may have; the longest one is told, and read again.
func TestLineLongest(t *testing.T) {
	e, size := greatLine()
	line, err := grammar.Line(e)
	if err != api.OK || len(line) != size || line != "object "+e.Name+" queue"+strings.Repeat(" -9223372036854775808", 1000) {
		t.Fatal(len(line), err)
	}
	expectPrint(t, []api.Event{e}, line+"\n", api.OK)
	expectParse(t, line, []api.Event{e}, api.Fault{})
}

// full are events whose lines, line feeds and all, have just so many bytes; the last one is a begin whose name may be made a byte longer, or shorter.
func full(size int) []api.Event {
	e, length := greatLine()
	l := slices.Repeat([]api.Event{e}, size/(length+1)-1)
	rest := size - len(l)*(length+1)
	for ; rest > 30; rest -= 20 {
		l = append(l, commit("commit_of_20"))
	}
	return append(l, begin(strings.Repeat("b", rest-7)))
}

// TestPrintLong: a text of just 2^26 bytes, line feeds and all, is told, and read again; of one more there is none.
func TestPrintLong(t *testing.T) {
	l := full(maxText)
	text := mustPrint(t, l)
	if len(text) != maxText || !strings.HasSuffix(text, "\n"+"begin "+l[len(l)-1].Name+"\n") {
		t.Fatal("the test itself is wrong:", len(text))
	}
	if back, f := grammar.Parse([]byte(text)); f != (api.Fault{}) || !like(back, l) {
		t.Error("read again:", len(back), f)
	}
	l[len(l)-1].Name += "b"
	expectPrint(t, l, "", api.ErrLong)
	// Here the lines without their line feeds would have room.
	l[len(l)-1].Name = l[len(l)-1].Name[2:]
	expectPrint(t, append(l, begin("t")), "", api.ErrLong)
}

// TestPrintLongWrong: an event that may not be is told ahead of a text that is too long, also where it stands behind what is too much; a line that would have room behind one that had none is not told.
func TestPrintLongWrong(t *testing.T) {
	e, length := greatLine()
	l := slices.Repeat([]api.Event{e}, maxText/(length+1)+1)
	expectPrint(t, append(l, begin("t")), "", api.ErrLong)
	expectPrint(t, append(l, begin("t"), begin("T"), api.Event{}), "", api.ErrName)
	expectPrint(t, append(l, api.Event{Kind: begins, Name: "T", Object: "a"}), "", api.ErrArg)
}

// mustPrint is the text of events that may be.
func mustPrint(t *testing.T, l []api.Event) string {
	t.Helper()
	text, err := grammar.Print(l)
	if err != api.OK {
		t.Fatal(err)
	}
	return text
}
