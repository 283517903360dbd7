package grammar_test

import (
	"math"
	"regexp"
	"slices"
	"strconv"
	"strings"
	"testing"

	"armistice/api"
	"armistice/grammar"
	"armistice/operation"
	"armistice/state"
	"armistice/token"
)

// The calls must keep the chapter's signatures.
var (
	_ func(api.Event) api.Errno             = grammar.Check
	_ func(api.Event) (string, api.Errno)   = grammar.Line
	_ func([]byte) ([]api.Event, api.Fault) = grammar.Parse
	_ func([]api.Event) (string, api.Errno) = grammar.Print
)

// The numbers of DOC.md that are used here.
const (
	most     = 1 << 62
	maxStart = 1000
	maxLine  = 65536
	maxText  = 1 << 26
	greatest = math.MaxInt
	least    = math.MinInt
)

// The kinds of events, by the words of their lines.
const (
	objects = 1
	begins  = 2
	ops     = 3
	commits = 4
	aborts  = 5
)

func first(kind int, l ...int) api.State { return api.State{Type: kind, L: l} }
func tally(n int) api.State              { return api.State{Type: 1, N: n} }
func account(n int) api.State            { return api.State{Type: 5, N: n} }
func told(n int) api.Ret                 { return api.Ret{Kind: 2, N: n} }
func nothing() api.Ret                   { return api.Ret{Kind: 1} }
func done() api.Ret                      { return api.Ret{} }

func pair(kind, a, b int, r api.Ret) api.Op { return api.Op{Kind: kind, A: a, B: b, Ret: r} }

func object(name string, s api.State) api.Event {
	return api.Event{Kind: objects, Name: name, First: s}
}
func begin(name string) api.Event  { return api.Event{Kind: begins, Name: name} }
func commit(name string) api.Event { return api.Event{Kind: commits, Name: name} }
func abort(name string) api.Event  { return api.Event{Kind: aborts, Name: name} }
func op(name, object string, o api.Op) api.Event {
	return api.Event{Kind: ops, Name: name, Object: object, Op: o}
}

func fault(e api.Errno, at int) api.Fault { return api.Fault{Err: e, At: at} }

// one is an event of each kind.
func one() []api.Event {
	return []api.Event{object("a", first(2, 1, 2)), begin("t"), op("t", "a", pair(3, 5, 0, told(1))), commit("t"), abort("t")}
}

// likeState and like tell whether two states, two lists of events are the same, nil and empty being so.
func likeState(a, b api.State) bool {
	return a.Type == b.Type && a.N == b.N && slices.Equal(a.L, b.L)
}

func like(a, b []api.Event) bool {
	return slices.EqualFunc(a, b, func(x, y api.Event) bool {
		return x.Kind == y.Kind && x.Name == y.Name && x.Object == y.Object && x.Op == y.Op && likeState(x.First, y.First)
	})
}

// nameShape is a name as the chapter of names tells it.
var nameShape = regexp.MustCompile(`\A[a-z][a-z0-9_]{0,31}\z`)

func lineWords() []string { return []string{"", "object", "begin", "op", "commit", "abort"} }

// checked is what Check must answer of an event.
func checked(e api.Event) api.Errno {
	rest := e
	rest.Kind, rest.Name = 0, ""
	switch e.Kind {
	case objects:
		rest.First = api.State{}
	case ops:
		rest.Object, rest.Op = "", api.Op{}
	case begins, commits, aborts:
	default:
		return api.ErrWord
	}
	switch {
	case rest.Object != "", rest.Op != api.Op{}, !likeState(rest.First, api.State{}):
		return api.ErrArg
	case !nameShape.MatchString(e.Name), e.Kind == ops && !nameShape.MatchString(e.Object):
		return api.ErrName
	case e.Kind == objects && state.Check(e.First) != api.OK:
		return state.Check(e.First)
	case e.Kind == objects && len(e.First.L) > maxStart:
		return api.ErrLong
	case e.Kind == ops:
		return operation.Check(e.Op)
	}
	return api.OK
}

// lined is what Line must answer of an event.
func lined(e api.Event) (string, api.Errno) {
	if err := checked(e); err != api.OK {
		return "", err
	}
	parts := []string{lineWords()[e.Kind], e.Name}
	if e.Kind == objects {
		s, _ := state.Text(e.First)
		parts = append(parts, s)
	}
	if e.Kind == ops {
		s, _ := operation.Text(e.Op)
		parts = append(parts, e.Object, s)
	}
	return strings.Join(parts, " "), api.OK
}

// printed is what Print must answer of events.
func printed(l []api.Event) (string, api.Errno) {
	var text strings.Builder
	err := api.OK
	for _, e := range l {
		line, wrong := lined(e)
		if wrong != api.OK {
			return "", wrong
		}
		text.WriteString(line + "\n")
		if len(line) > maxLine || text.Len() > maxText {
			err = api.ErrLong
		}
	}
	if err != api.OK {
		return "", err
	}
	return text.String(), api.OK
}

// parsed is what Parse must answer of a text.
func parsed(text string) ([]api.Event, api.Fault) {
	if _, f := token.Lines([]byte(text)); f.Err != api.OK {
		return nil, f
	}
	var l []api.Event
	at := 0
	for _, line := range strings.Split(text, "\n") {
		if line != "" && line[0] != '#' {
			e, err, place := parsedLine(line)
			if err != api.OK {
				return nil, fault(err, at+place)
			}
			l = append(l, e)
		}
		at += len(line) + 1
	}
	return l, api.Fault{}
}

// parsedLine is the event of a line of words, or what is wrong with it, and at which of its bytes.
func parsedLine(line string) (api.Event, api.Errno, int) {
	words := strings.Split(line, " ")
	place := func(n int) int {
		if n >= len(words) {
			return len(line)
		}
		return len(line) - len(strings.Join(words[n:], " "))
	}
	e := api.Event{Kind: slices.Index(lineWords(), words[0])}
	switch {
	case e.Kind < 1:
		return api.Event{}, api.ErrWord, 0
	case len(words) < 2:
		return api.Event{}, api.ErrForm, len(line)
	case !nameShape.MatchString(words[1]):
		return api.Event{}, api.ErrName, place(1)
	}
	e.Name = words[1]
	if e.Kind != objects && e.Kind != ops {
		if len(words) > 2 {
			return api.Event{}, api.ErrForm, place(2)
		}
		return e, api.OK, 0
	}
	if len(words) < 3 {
		return api.Event{}, api.ErrForm, len(line)
	}
	if e.Kind == objects {
		s, f := state.Read(strings.SplitN(line, " ", 3)[2])
		if f.Err == api.OK && len(s.L) > maxStart {
			f = fault(api.ErrLong, 0)
		}
		if f.Err != api.OK {
			return api.Event{}, f.Err, place(2) + f.At
		}
		e.First = s
		return e, api.OK, 0
	}
	if !nameShape.MatchString(words[2]) {
		return api.Event{}, api.ErrName, place(2)
	}
	o, n, err := operation.Read(words[3:]...)
	if err != api.OK {
		return api.Event{}, err, place(3 + n)
	}
	e.Object, e.Op = words[2], o
	return e, api.OK, 0
}

// expectEvent holds what Check and Line answer of an event against what they must.
func expectEvent(t *testing.T, e api.Event, line string, err api.Errno) {
	t.Helper()
	if got := grammar.Check(e); got != err {
		t.Errorf("Check(%.80v): %v; want %v", e, got, err)
	}
	if s, got := grammar.Line(e); s != line || got != err {
		t.Errorf("Line(%.80v): %.60q, %v; want %.60q, %v", e, s, got, line, err)
	}
}

// refuse holds that an event may not be, for that reason.
func refuse(t *testing.T, e api.Event, err api.Errno) {
	t.Helper()
	expectEvent(t, e, "", err)
}

// accept holds that an event may be, and what its line is.
func accept(t *testing.T, e api.Event, line string) {
	t.Helper()
	expectEvent(t, e, line, api.OK)
}

// hold holds an event against the chapter's words.
func hold(t *testing.T, e api.Event) {
	t.Helper()
	line, err := lined(e)
	expectEvent(t, e, line, err)
}

func expectParse(t *testing.T, text string, want []api.Event, wrong api.Fault) {
	t.Helper()
	l, f := grammar.Parse([]byte(text))
	if !like(l, want) || f != wrong {
		t.Errorf("Parse(%.70q of %d bytes): %.80v, %v; want %.80v, %v", text, len(text), l, f, want, wrong)
	}
}

// refuseText holds that a text is wrong there, so that no event is told.
func refuseText(t *testing.T, text string, err api.Errno, at int) {
	t.Helper()
	expectParse(t, text, nil, fault(err, at))
}

// holdText holds a text against the chapter's words.
func holdText(t *testing.T, text string) {
	t.Helper()
	l, f := parsed(text)
	expectParse(t, text, l, f)
}

func expectPrint(t *testing.T, l []api.Event, want string, err api.Errno) {
	t.Helper()
	if s, e := grammar.Print(l); s != want || e != err {
		t.Errorf("Print(%.60v): %.60q of %d bytes, %v; want %.60q of %d bytes, %v", l, s, len(s), e, want, len(want), err)
	}
}

// drawer draws numbers that are the same in each run.
type drawer uint64

// below draws a number from 0 on that is less than n.
func (d *drawer) below(n int) int {
	*d = *d*6364136223846793005 + 1442695040888963407
	return int(uint64(*d)>>33) % n
}

func pick[T any](d *drawer, l []T) T { return l[d.below(len(l))] }

// edges are numbers about which something changes.
func edges() []int {
	return []int{least, least + 1, -most, -2, -1, 0, 1, 2, 10, most - 1, most, most + 1, greatest}
}

// someNames are names, the shortest and the longest among them, and words of lines.
func someNames() []string {
	return []string{"a", "t", "z9", "a_", "op", "begin", "ok", "t1_x", strings.Repeat("q", 32)}
}

// noNames are texts that are no names.
func noNames() []string {
	l := []string{"", strings.Repeat("q", 33), "A", "Ta", "aT", "1a", "_", "_a", " ", "a b", " a", "a ", "a\n", "\n", "a\x00", "\x80", "a\xff", "é", "aé", "a-", "a.b", "#", "->", "a\tb", "a\x7f"}
	for x := range 256 {
		b := string([]byte{byte(x)})
		if !nameShape.MatchString(b) {
			l = append(l, b)
		}
		if !nameShape.MatchString("a" + b) {
			l = append(l, "a"+b)
		}
	}
	return l
}

// noKinds are numbers of which none is a kind of events.
func noKinds() []int {
	return []int{0, 6, -1, 7, -2, -5, 255, 256, 257, 259, 1<<32 + 2, greatest, greatest - 1, least, least + 1, least + 2}
}

// put tells a number's text.
func put(n int) string { return strconv.Itoa(n) }
