package token_test

import (
	"bytes"
	"reflect"
	"regexp"
	"slices"
	"strings"
	"testing"
	"unsafe"

	"armistice/api"
	"armistice/token"
)

// The calls must keep the chapter's signatures.
var (
	_ func([]byte) ([]api.Line, api.Fault) = token.Lines
	_ func(...string) (string, api.Errno)  = token.Join
)

func fault(e api.Errno, at int) api.Fault { return api.Fault{Err: e, At: at} }

func line(at int, words ...api.Word) api.Line { return api.Line{At: at, Words: words} }

func word(text string, at int) api.Word { return api.Word{Text: text, At: at} }

// same tells whether two lists of lines are the same, nil and empty being so.
func same(a, b []api.Line) bool {
	return slices.EqualFunc(a, b, func(x, y api.Line) bool {
		return x.At == y.At && slices.Equal(x.Words, y.Words)
	})
}

// expect holds what Lines answers of text against what it must.
func expect(t *testing.T, text string, want []api.Line, wrong api.Fault) {
	t.Helper()
	got, f := token.Lines([]byte(text))
	if !same(got, want) || f != wrong {
		t.Errorf("Lines(%.60q of %d bytes): %d lines, fault %v; want %d lines, fault %v", text, len(text), len(got), f, len(want), wrong)
	}
}

// shapes are a word and a line as the chapter's words tell them.
var (
	wordShape = regexp.MustCompile(`\A[!-~]+\z`)
	lineShape = regexp.MustCompile(`\A[!-~]+( [!-~]+)*\z`)
	goodBegin = regexp.MustCompile(`\A([!-~]+( [!-~]+)* ?)?`)
	wordPlace = regexp.MustCompile(`[!-~]+`)
)

// wrongPlace tells where a line that is none is wrong: behind all that may still become one.
func wrongPlace(line string) int {
	return len(goodBegin.FindString(line))
}

// told is what Lines must answer of text, worked out by expressions over whole lines.
func told(text string) ([]api.Line, api.Fault) {
	if len(text) > api.MaxText {
		return nil, fault(api.ErrLong, api.MaxText)
	}
	var lines []api.Line
	at := 0
	for _, l := range strings.Split(text, "\n") {
		switch {
		case len(l) > 65536:
			return nil, fault(api.ErrLong, at)
		case l == "", strings.HasPrefix(l, "#"):
		case !lineShape.MatchString(l):
			return nil, fault(api.ErrForm, at+wrongPlace(l))
		default:
			x := line(at)
			for _, p := range wordPlace.FindAllStringIndex(l, -1) {
				x.Words = append(x.Words, word(l[p[0]:p[1]], at+p[0]))
			}
			lines = append(lines, x)
		}
		at += len(l) + 1
	}
	return lines, api.Fault{}
}

// texts goes through all texts of at most size bytes of letters.
func texts(letters string, size int, do func(string)) {
	do("")
	if size == 0 {
		return
	}
	var grow func(text []byte)
	grow = func(text []byte) {
		for i := range len(letters) {
			longer := append(text, letters[i])
			do(string(longer))
			if len(longer) < size {
				grow(longer)
			}
		}
	}
	grow(make([]byte, 0, size))
}

// P2.1: what the chapter's examples say, and lines of all shapes.
func TestLines(t *testing.T) {
	for _, x := range []struct {
		text string
		want []api.Line
	}{
		{"ab c\n\n# x\nd", []api.Line{line(0, word("ab", 0), word("c", 3)), line(10, word("d", 10))}},
		{"", nil},
		{"a", []api.Line{line(0, word("a", 0))}},
		{"a\n", []api.Line{line(0, word("a", 0))}},
		{"a\n\n", []api.Line{line(0, word("a", 0))}},
		{"\na", []api.Line{line(1, word("a", 1))}},
		{"a b\ndd e", []api.Line{line(0, word("a", 0), word("b", 2)), line(4, word("dd", 4), word("e", 7))}},
		{"a a\na a", []api.Line{line(0, word("a", 0), word("a", 2)), line(4, word("a", 4), word("a", 6))}},
		{"! ~ !~", []api.Line{line(0, word("!", 0), word("~", 2), word("!~", 4))}},
		{"a# # ##", []api.Line{line(0, word("a#", 0), word("#", 3), word("##", 5))}},
	} {
		expect(t, x.text, x.want, api.Fault{})
	}
}

// P2.1: a line without a byte and one that begins with # are passed over, whatever else it has.
func TestPassedOver(t *testing.T) {
	for _, text := range []string{"\n", "\n\n\n", "#", "#\n", "# \n", "#  x ", "#\t\x00\x7f\xff\xc3\xa9\r\n#", "\n#\n\n##\n", "#" + strings.Repeat("\xff", 65535), "#" + strings.Repeat(" ", 65535) + "\n"} {
		expect(t, text, nil, api.Fault{})
		expect(t, text+"\nx", []api.Line{line(len(text)+1, word("x", len(text)+1))}, api.Fault{})
	}
	expect(t, " #", nil, fault(api.ErrForm, 0))
	expect(t, " \n", nil, fault(api.ErrForm, 0))
	expect(t, "\r\n", nil, fault(api.ErrForm, 0))
	expect(t, "\x00", nil, fault(api.ErrForm, 0))
}

// P2.1: where a line is wrong.
func TestLinesWrong(t *testing.T) {
	for _, x := range []struct {
		text string
		at   int
	}{
		{"a  b", 2}, {" a", 0}, {"a ", 2}, {"a\tb", 1},
		{" ", 0}, {"  ", 0}, {"a  ", 2}, {"a   b", 2}, {"a b ", 4}, {"ab \n", 3}, {"a \nb", 2}, {"a \n\nb", 2},
		{"a\r\nb", 1}, {"\ta", 0}, {"a \t", 2}, {"a\x7f", 1}, {"a\x80", 1}, {"\xffa", 0}, {"a \x00 ", 2}, {"é", 0}, {"aé", 1},
		{"a\n b", 2}, {"a\n\n\n b", 4}, {"# \n b", 3}, {"ab c\nd  e\nf  g", 7}, {"ab\nc\td e \n", 4},
		{"a  \t", 2}, {"a\t  ", 1}, {"a \n \t", 2},
	} {
		expect(t, x.text, nil, fault(api.ErrForm, x.at))
	}
}

// P2.1: each byte, at the beginning, within, and at the end of a word and of a line.
func TestEachByte(t *testing.T) {
	for x := range 256 {
		b := string([]byte{byte(x)})
		for _, text := range []string{b, b + "a", "a" + b, "a" + b + "a", "a " + b, b + " a", "a " + b + " a", "a" + b + " a", "a " + b + "a", "a\n" + b, "a" + b + "\na"} {
			want, f := told(text)
			expect(t, text, want, f)
		}
	}
	for _, x := range []struct {
		b     byte
		wrong bool
	}{{0, true}, {9, true}, {31, true}, {33, false}, {34, false}, {126, false}, {127, true}, {128, true}, {255, true}} {
		text := "a" + string([]byte{x.b}) + "b"
		if x.wrong {
			expect(t, text, nil, fault(api.ErrForm, 1))
		} else {
			expect(t, text, []api.Line{line(0, word(text, 0))}, api.Fault{})
		}
	}
	expect(t, "a\x20b", []api.Line{line(0, word("a", 0), word("b", 2))}, api.Fault{})
}

// P2.1: all short texts, against the chapter's words.
func TestShortTexts(t *testing.T) {
	texts("a# \n\t", 7, func(text string) {
		want, f := told(text)
		expect(t, text, want, f)
	})
	texts("!\x7f \n", 7, func(text string) {
		want, f := told(text)
		expect(t, text, want, f)
	})
}

// P2.1: lines of 65,536 bytes and of one more.
func TestLongLines(t *testing.T) {
	full := strings.Repeat("x", 65536)
	spaced := strings.Repeat("x ", 32767) + "xy"
	for _, end := range []string{"", "\n", "\n\n"} {
		expect(t, full+end, []api.Line{line(0, word(full, 0))}, api.Fault{})
		expect(t, "a\n"+full+end, []api.Line{line(0, word("a", 0)), line(2, word(full, 2))}, api.Fault{})
		expect(t, full+"x"+end, nil, fault(api.ErrLong, 0))
		expect(t, "a\n"+full+"x"+end, nil, fault(api.ErrLong, 2))
		expect(t, "#\n\n#"+full+end, nil, fault(api.ErrLong, 3))
		expect(t, "#"+full+end, nil, fault(api.ErrLong, 0))
		expect(t, "#"+full[1:]+end, nil, api.Fault{})
		expect(t, full+"\n"+full+"x"+end, nil, fault(api.ErrLong, 65537))
	}
	want, f := told(spaced)
	if len(spaced) != 65536 || len(want) != 1 || len(want[0].Words) != 32768 || f != (api.Fault{}) {
		t.Fatal("the test itself is wrong")
	}
	expect(t, spaced, want, api.Fault{})
	expect(t, spaced+"z", nil, fault(api.ErrLong, 0))
}

// P2.1: a line's length is asked ahead of its form, and one line ahead of the next.
func TestOrderOfFaults(t *testing.T) {
	full := strings.Repeat("x", 65536)
	for _, x := range []struct {
		text string
		want api.Fault
	}{
		{" " + full, fault(api.ErrLong, 0)},
		{"\t" + full, fault(api.ErrLong, 0)},
		{full + " ", fault(api.ErrLong, 0)},
		{strings.Repeat(" ", 65537), fault(api.ErrLong, 0)},
		{strings.Repeat(" ", 65536), fault(api.ErrForm, 0)},
		{full[1:] + " ", fault(api.ErrForm, 65536)},
		{full[1:] + "\x00\n", fault(api.ErrForm, 65535)},
		{"a  b\n" + full + "x", fault(api.ErrForm, 2)},
		{full + "x\na  b", fault(api.ErrLong, 0)},
		{"a\n" + full + "x\n b", fault(api.ErrLong, 2)},
		{"a\tb\n \n", fault(api.ErrForm, 1)},
	} {
		expect(t, x.text, nil, x.want)
	}
}

// P2.1: texts of 2^26 bytes and of one more, which is asked ahead of all lines.
func TestLongTexts(t *testing.T) {
	feeds := strings.Repeat("\n", api.MaxText)
	expect(t, feeds, nil, api.Fault{})
	expect(t, feeds[1:]+"a", []api.Line{line(api.MaxText-1, word("a", api.MaxText-1))}, api.Fault{})
	expect(t, feeds+"\n", nil, fault(api.ErrLong, api.MaxText))
	expect(t, " "+feeds, nil, fault(api.ErrLong, api.MaxText))
	expect(t, feeds+"a", nil, fault(api.ErrLong, api.MaxText))
	expect(t, feeds[1:]+" ", nil, fault(api.ErrForm, api.MaxText-1))
	expect(t, feeds[2:]+"a ", nil, fault(api.ErrForm, api.MaxText))
	expect(t, strings.Repeat("x", api.MaxText), nil, fault(api.ErrLong, 0))
	expect(t, strings.Repeat("x", api.MaxText+1), nil, fault(api.ErrLong, api.MaxText))
	expect(t, strings.Repeat("x", api.MaxText+65537), nil, fault(api.ErrLong, api.MaxText))
}

// P2.1: many lines, and many words of lines as long as they may be, are told whole.
func TestManyWords(t *testing.T) {
	const count = 1 << 20
	l, f := token.Lines(bytes.Repeat([]byte("x\n"), count))
	if len(l) != count || f != (api.Fault{}) || !same(l[count-1:], []api.Line{line(2*count-2, word("x", 2*count-2))}) {
		t.Error("many lines:", len(l), f)
	}
	row := strings.Repeat("x ", 32767) + "x\n"
	l, f = token.Lines([]byte(strings.Repeat(row, 32)))
	if len(l) != 32 || f != (api.Fault{}) {
		t.Fatal("many words:", len(l), f)
	}
	for i, x := range l {
		if x.At != i*65536 || len(x.Words) != 32768 || x.Words[32767] != word("x", i*65536+65534) {
			t.Fatal("many words: line", i)
		}
	}
}

// Rule 4: an answer is new memory, and what is handed in stays as it was, its spare room too.
func TestLinesMemory(t *testing.T) {
	const text = "ab c\n# x\nd e f\n"
	room := []byte(text + " tail  x")
	kept := bytes.Clone(room)
	want, _ := told(text)
	got, f := token.Lines(room[:len(text)])
	if !same(got, want) || f != (api.Fault{}) || !bytes.Equal(room, kept) {
		t.Fatal("spare room:", got, f, string(room))
	}
	for i := range room {
		room[i] = '?'
	}
	if !same(got, want) {
		t.Error("the answer changes with the text:", got)
	}
	for i := range got {
		whole := got[i].Words[:cap(got[i].Words)]
		for j := range whole {
			whole[j] = word("z", -1)
		}
		if i+1 < len(got) && !same(got[i+1:], want[i+1:]) {
			t.Error("lines share their words:", got)
		}
	}
	again, _ := token.Lines([]byte(text))
	if !same(again, want) {
		t.Error("answers share memory:", again)
	}
}

// Rule 2: beside a fault there are no lines, and a list of none is as good as nil.
func TestZeroBesideFault(t *testing.T) {
	for _, text := range []string{"a\nb\n c", "a\n" + strings.Repeat("x", 65537), "a b ", "\x00"} {
		if l, f := token.Lines([]byte(text)); len(l) != 0 || f.Err == api.OK {
			t.Errorf("%.20q: %v %v", text, l, f)
		}
	}
	if l, f := token.Lines(nil); len(l) != 0 || f != (api.Fault{}) {
		t.Error("nil:", l, f)
	}
}

// expectJoin holds what Join answers of words against what it must.
func expectJoin(t *testing.T, words []string, want string, e api.Errno) {
	t.Helper()
	if got, err := token.Join(words...); got != want || err != e {
		t.Errorf("Join(%.60q): %.60q, %v; want %.60q, %v", words, got, err, want, e)
	}
}

// joined is what Join must answer of words.
func joined(words []string) (string, api.Errno) {
	if len(words) == 0 || strings.HasPrefix(words[0], "#") || slices.ContainsFunc(words, func(w string) bool { return !wordShape.MatchString(w) }) {
		return "", api.ErrForm
	}
	if s := strings.Join(words, " "); len(s) <= 65536 {
		return s, api.OK
	}
	return "", api.ErrLong
}

// P2.2: what the chapter's examples say, and words of all shapes.
func TestJoin(t *testing.T) {
	for _, x := range []struct {
		words []string
		want  string
	}{
		{[]string{"ab", "c"}, "ab c"}, {[]string{"a"}, "a"}, {[]string{"a", "a", "a"}, "a a a"}, {[]string{"b", "a"}, "b a"},
		{[]string{"!", "~"}, "! ~"}, {[]string{"a#"}, "a#"}, {[]string{"a", "#", "#b"}, "a # #b"},
	} {
		expectJoin(t, x.words, x.want, api.OK)
	}
	for _, words := range [][]string{nil, {}, {"a b"}, {"a", ""}, {"#"}, {""}, {"", "a"}, {"a", "", "b"}, {"#", "a"}, {"#a"}, {"a\n"}, {"\n"}, {"a", "\tb"}, {"a", "b\x7f"}, {"é"}, {"\xff"}, {"\x00"}, {" "}, {" a"}, {"a "}, {"a", "b", "c d"}} {
		expectJoin(t, words, "", api.ErrForm)
	}
}

// P2.2: each byte, alone and within a word, first and behind another word.
func TestJoinEachByte(t *testing.T) {
	for x := range 256 {
		b := string([]byte{byte(x)})
		for _, w := range []string{b, b + "a", "a" + b, "a" + b + "a"} {
			for _, words := range [][]string{{w}, {"a", w}, {w, "a"}, {"a", w, "a"}} {
				want, e := joined(words)
				expectJoin(t, words, want, e)
			}
		}
		if _, e := token.Join("a" + b); (e == api.OK) != (x >= 33 && x <= 126) {
			t.Error("byte", x, e)
		}
	}
}

// P2.2: words that make a line of 65,536 bytes and of one more; a wrong form is told ahead of the length.
func TestJoinLong(t *testing.T) {
	full := strings.Repeat("x", 65536)
	expectJoin(t, []string{full}, full, api.OK)
	expectJoin(t, []string{full + "x"}, "", api.ErrLong)
	expectJoin(t, []string{full[:32767], full[:32768]}, full[:32767]+" "+full[:32768], api.OK)
	expectJoin(t, []string{full[:32768], full[:32768]}, "", api.ErrLong)
	expectJoin(t, []string{"a", full[2:]}, "a "+full[2:], api.OK)
	expectJoin(t, []string{"a", full[1:]}, "", api.ErrLong)
	many := slices.Repeat([]string{"x"}, 32768)
	expectJoin(t, many, strings.Repeat("x ", 32767)+"x", api.OK)
	many[9] = "xy"
	expectJoin(t, many, strings.Join(many, " "), api.OK)
	many[0] = "xy"
	expectJoin(t, many, "", api.ErrLong)
	expectJoin(t, slices.Repeat([]string{full}, 1<<10), "", api.ErrLong)

	expectJoin(t, []string{full + "x", ""}, "", api.ErrForm)
	expectJoin(t, []string{full, full, "a b"}, "", api.ErrForm)
	expectJoin(t, []string{"#" + full}, "", api.ErrForm)
	expectJoin(t, []string{full + " "}, "", api.ErrForm)
	expectJoin(t, []string{"\x00", full + "x"}, "", api.ErrForm)
}

// Rule 4: a line is new memory, the words stay as they were.
func TestJoinMemory(t *testing.T) {
	words := []string{"ab", "c", " spare"}
	if s, e := token.Join(words[:2]...); s != "ab c" || e != api.OK || !slices.Equal(words, []string{"ab", "c", " spare"}) {
		t.Error(s, e, words)
	}
	alone := strings.Repeat("x", 40)
	if s, _ := token.Join(alone); s != alone || unsafe.StringData(s) == unsafe.StringData(alone) {
		t.Error("the line of one word is that word's own memory")
	}
}

// P2.3: what is joined is a line of just these words, and no line else can be joined.
func TestJoinedIsLine(t *testing.T) {
	check := func(words []string) {
		t.Helper()
		s, e := token.Join(words...)
		if e != api.OK {
			return
		}
		l, f := token.Lines([]byte(s))
		if len(l) != 1 || f != (api.Fault{}) || l[0].At != 0 || len(l[0].Words) != len(words) {
			t.Fatalf("Lines(Join(%.40q)): %v %v", words, len(l), f)
		}
		for i, w := range l[0].Words {
			if w.Text != words[i] {
				t.Fatalf("Lines(Join(%.40q)): %v", words, w)
			}
		}
	}
	var some []string
	texts("a# \n", 3, func(text string) { some = append(some, text) })
	for _, a := range some {
		check([]string{a})
		for _, b := range some {
			check([]string{a, b})
			want, e := joined([]string{a, b})
			expectJoin(t, []string{a, b}, want, e)
		}
	}
	full := strings.Repeat("x", 65536)
	check([]string{full})
	check([]string{full[:32768], full[:32767]})
	check(slices.Repeat([]string{"x"}, 32768))
}

// stand tells whether words stand at their places in text, one space apart, from their line's place on.
func stand(text string, lines []api.Line) bool {
	for _, l := range lines {
		at := l.At
		if at > 0 && text[at-1] != '\n' || len(l.Words) == 0 {
			return false
		}
		for i, w := range l.Words {
			if i > 0 {
				if text[at] != ' ' {
					return false
				}
				at++
			}
			if w.At != at || !wordShape.MatchString(w.Text) || !strings.HasPrefix(text[at:], w.Text) {
				return false
			}
			at += len(w.Text)
		}
		if at < len(text) && text[at] != '\n' {
			return false
		}
	}
	return true
}

// P2.3: words stand at their places; the words of each line join to just that line.
func TestWordsStand(t *testing.T) {
	texts("a! #\n", 7, func(text string) {
		lines, _ := token.Lines([]byte(text))
		if !stand(text, lines) {
			t.Errorf("%q: %v", text, lines)
		}
		for _, l := range lines {
			var words []string
			for _, w := range l.Words {
				words = append(words, w.Text)
			}
			if s, e := token.Join(words...); e != api.OK || !strings.HasPrefix(text[l.At:], s) {
				t.Errorf("%q: the words of %v make %q", text, l, s)
			}
		}
	})
}

// moved are lines whose text stands n bytes further behind.
func moved(lines []api.Line, n int) []api.Line {
	var out []api.Line
	for _, l := range lines {
		x := line(l.At + n)
		for _, w := range l.Words {
			x.Words = append(x.Words, word(w.Text, w.At+n))
		}
		out = append(out, x)
	}
	return out
}

// P2.3: lines of two texts, the first of which ends with a line feed, are those of both.
func TestTwoTexts(t *testing.T) {
	var some []string
	texts("a# \n", 4, func(text string) { some = append(some, text) })
	for _, a := range some {
		if !strings.HasSuffix(a, "\n") {
			continue
		}
		ahead, f := token.Lines([]byte(a))
		for _, b := range some {
			behind, g := token.Lines([]byte(b))
			switch {
			case f.Err != api.OK:
				expect(t, a+b, nil, f)
			case g.Err != api.OK:
				expect(t, a+b, nil, fault(g.Err, len(a)+g.At))
			default:
				expect(t, a+b, append(slices.Clone(ahead), moved(behind, len(a))...), api.Fault{})
			}
		}
	}
}

// P1: what a call answers depends on its arguments alone.
func TestAgain(t *testing.T) {
	texts("a# \n", 5, func(text string) {
		a, f := token.Lines([]byte(text))
		b, g := token.Lines([]byte(text))
		if !reflect.DeepEqual(a, b) || f != g {
			t.Errorf("%q: %v %v, then %v %v", text, a, f, b, g)
		}
	})
}

func FuzzLines(f *testing.F) {
	for _, s := range []string{"", "ab c\n\n# x\nd", "a  b", " a", "a ", "a\tb", "#\n\xff"} {
		f.Add(s)
	}
	f.Fuzz(func(t *testing.T, text string) {
		want, wrong := told(text)
		expect(t, text, want, wrong)
		words := strings.Split(text, ",")
		line, e := joined(words)
		expectJoin(t, words, line, e)
	})
}
