package grammar_test

import (
	"slices"
	"strings"
	"testing"

	"armistice/api"
	"armistice/grammar"
)

// P12.2: Parse.

// lines are one of each kind of line that may be, by the events' order in one.
func lines() []string {
	return []string{"object a set 1 2", "begin t", "op t a insert 5 -> 1", "commit t", "abort t"}
}

// ahead are texts that end with a line feed, or are empty, and hold so many events.
func ahead() map[string][]api.Event {
	return map[string][]api.Event{
		"":                      nil,
		"\n":                    nil,
		"# begin T\n\n":         nil,
		"begin t\n":             {begin("t")},
		"abort t\n#\nbegin u\n": {abort("t"), begin("u")},
	}
}

// everywhere holds that a line is wrong there, wherever it stands, with a line feed behind it and more, and without.
func everywhere(t *testing.T, line string, err api.Errno, at int) {
	t.Helper()
	for text := range ahead() {
		for _, behind := range []string{"", "\n", "\nbegin t\n", "\ngo\n", "\nabort\n"} {
			refuseText(t, text+line+behind, err, len(text)+at)
		}
	}
}

// accepted holds that a line is that event, wherever it stands.
func accepted(t *testing.T, line string, e api.Event) {
	t.Helper()
	for text, l := range ahead() {
		for _, behind := range []string{"", "\n", "\n\n", "\n# x  \t y", "\n#\n"} {
			expectParse(t, text+line+behind, append(slices.Clone(l), e), api.Fault{})
		}
		expectParse(t, text+line+"\ncommit t", append(slices.Clone(l), e, commit("t")), api.Fault{})
	}
}

func TestParseNothing(t *testing.T) {
	expectParse(t, "", nil, api.Fault{})
	if l, f := grammar.Parse(nil); len(l) != 0 || f != (api.Fault{}) {
		t.Error("nil:", l, f)
	}
	for _, text := range []string{"\n", "\n\n\n", "#", "#\n", "# begin t", "# begin t\n", "#begin", "# \t\x00\x7f\xff é\r\n\n#  ", "##\n\n#"} {
		expectParse(t, text, nil, api.Fault{})
	}
	for text, at := range map[string]int{" ": 0, "  ": 0, " \n": 0, "\n ": 1, "\n\n \n": 2, "#\n  ": 2, "\t": 0, "\r\n": 0, " #": 0, " # begin t\n": 0} {
		refuseText(t, text, api.ErrForm, at)
	}
}

func TestParseLines(t *testing.T) {
	for i, line := range lines() {
		accepted(t, line, one()[i])
	}
	for _, name := range someNames() {
		accepted(t, "begin "+name, begin(name))
		accepted(t, "commit "+name, commit(name))
		accepted(t, "abort "+name, abort(name))
		accepted(t, "object "+name+" queue", object(name, first(4)))
		for _, other := range someNames() {
			accepted(t, "op "+name+" "+other+" deq -> none", op(name, other, pair(11, 0, 0, nothing())))
		}
	}
	for _, text := range []string{"", "\n"} {
		expectParse(t, strings.Join(lines(), "\n")+text, one(), api.Fault{})
		expectParse(t, strings.Join(lines(), "\n# a remark\n\n")+text, one(), api.Fault{})
	}
}

// TestWordsCut: a line whose last words are cut off, one by one, lacks something at its end.
func TestWordsCut(t *testing.T) {
	for _, line := range []string{"object a", "object", "begin", "op t a insert 5 ->", "op t a insert 5", "op t a insert", "op t a", "op t", "op", "commit", "abort", "op t a put 1", "op t a put 1 2", "op t a deq", "op t a deq ->"} {
		everywhere(t, line, api.ErrForm, len(line))
	}
	// A state that lacks its numbers is no state: it is wrong where it begins.
	everywhere(t, "object a counter", api.ErrForm, 9)
	everywhere(t, "object a escrow", api.ErrForm, 9)
	everywhere(t, "object a map 1", api.ErrForm, 9)
	accepted(t, "object a map", object("a", first(3)))
	accepted(t, "object a set", object("a", first(2)))
}

// TestWordsMore: a word too many is wrong where it begins, whatever it is; of a state it is a part.
func TestWordsMore(t *testing.T) {
	for _, more := range []string{"x", "5", "t", "->", "#", "# x", "ok ok", "~"} {
		for _, line := range []string{"begin t", "commit t", "abort t", "op t a insert 5 -> 1", "op t a add 1 -> ok", "op t a deq -> none", "op t a put 1 2 -> none"} {
			everywhere(t, line+" "+more, api.ErrForm, len(line)+1)
		}
	}
	everywhere(t, "object a set 1 2 x", api.ErrForm, 17)
	everywhere(t, "object a set 1 2 #", api.ErrForm, 17)
	everywhere(t, "object a set 1 2 2", api.ErrForm, 9)
	everywhere(t, "object a counter 1 2", api.ErrForm, 9)
	everywhere(t, "object a escrow 1 2", api.ErrForm, 9)
}

// TestBytes: a byte of no word, set into each place of a line, is wrong just there.
func TestBytes(t *testing.T) {
	for _, line := range lines() {
		for at := range len(line) + 1 {
			for _, b := range []string{"\x00", "\t", "\r", "\x1f", "\x7f", "\x80", "\xff", "é"} {
				for _, text := range []string{"", "begin t\n", "go\n"} {
					refuseText(t, text+line[:at]+b+line[at:], api.ErrForm, len(text)+at)
				}
			}
		}
	}
}

// TestSpaces: more than one space between two words is wrong at the second one, one ahead of them at the first, one behind them at the line's end.
func TestSpaces(t *testing.T) {
	for _, line := range lines() {
		for at := range len(line) {
			if line[at] == ' ' {
				everywhere(t, line[:at]+" "+line[at:], api.ErrForm, at+1)
				everywhere(t, line[:at]+"   "+line[at:], api.ErrForm, at+1)
			}
		}
		everywhere(t, " "+line, api.ErrForm, 0)
		everywhere(t, "  "+line, api.ErrForm, 0)
		everywhere(t, line+" ", api.ErrForm, len(line)+1)
		everywhere(t, line+"  ", api.ErrForm, len(line)+1)
	}
}

// TestFirstWords: a first word that is none of the five is told at the line's beginning, whatever stands behind it.
func TestFirstWords(t *testing.T) {
	for _, word := range []string{"go", "obj", "objects", "object,", "Object", "OBJECT", "beg", "begins", "Begin", "o", "ops", "Op", "comit", "commits", "COMMIT", "abor", "aborts", "t", "a", "add", "insert", "counter", "set", "0", "1", "-1", "->", "ok", "_", "~", "!", "a#", "begin#"} {
		for _, behind := range []string{"", " t", " a set 1 2", " t a insert 5 -> 1", " T", " A x", " #"} {
			everywhere(t, word+behind, api.ErrWord, 0)
		}
	}
}

// wordsNoNames are words that are no names.
func wordsNoNames() []string {
	return slices.DeleteFunc(noNames(), func(s string) bool {
		return s == "" || strings.ContainsFunc(s, func(r rune) bool { return r <= 32 || r >= 127 }) || strings.ToValidUTF8(s, "") != s
	})
}

// TestNamesWrong: a name that is none is told at its place, ahead of what stands behind it.
func TestNamesWrong(t *testing.T) {
	if len(wordsNoNames()) < 80 {
		t.Fatal("the test itself is wrong:", wordsNoNames())
	}
	for _, name := range wordsNoNames() {
		for _, word := range []string{"object", "begin", "op", "commit", "abort"} {
			for _, behind := range []string{"", " a", " a b", " set 1 2", " sets", " A x"} {
				refuseText(t, word+" "+name+behind, api.ErrName, len(word)+1)
				refuseText(t, "abort t\n"+word+" "+name+behind+"\n", api.ErrName, 8+len(word)+1)
			}
		}
		for _, behind := range []string{"", " insert 5 -> 1", " ins", " insert x", " insert 5 -> 2"} {
			refuseText(t, "op t "+name+behind, api.ErrName, 5)
			refuseText(t, "#\n\nop t "+name+behind+"\n", api.ErrName, 8)
		}
	}
	for _, name := range []string{"T", "1", strings.Repeat("q", 33), "_"} {
		everywhere(t, "begin "+name, api.ErrName, 6)
		everywhere(t, "op tt "+name, api.ErrName, 6)
	}
}

// TestStatesWrong: each fault of a state's text, at its place in the whole.
func TestStatesWrong(t *testing.T) {
	for _, x := range []struct {
		state string
		err   api.Errno
		at    int
	}{
		{"sets", api.ErrWord, 0}, {"Set 1", api.ErrWord, 0}, {"1 set", api.ErrWord, 0}, {"read", api.ErrWord, 0}, {"a set 1", api.ErrWord, 0},
		{"counter", api.ErrForm, 0}, {"counter x", api.ErrForm, 8}, {"counter 1x", api.ErrForm, 9}, {"counter -", api.ErrForm, 9}, {"counter 1 x", api.ErrForm, 10}, {"counter 1 1", api.ErrForm, 0}, {"counter +1", api.ErrForm, 8}, {"counter -0", api.ErrForm, 9}, {"counter 01", api.ErrForm, 9},
		{"counter 9223372036854775808", api.ErrRange, 8}, {"queue 1 -9223372036854775809", api.ErrRange, 8}, {"queue 1 " + strings.Repeat("1", 21), api.ErrLong, 28}, {"queue 1 99999999999999999999 x", api.ErrRange, 8},
		{"set 2 1", api.ErrForm, 0}, {"set 1 1", api.ErrForm, 0}, {"set 2 1 x", api.ErrForm, 8}, {"map 1", api.ErrForm, 0}, {"map 1 2 1 3", api.ErrForm, 0}, {"map 1 2 x", api.ErrForm, 8},
		{"queue 1 -> 2", api.ErrForm, 9}, {"escrow -1", api.ErrForm, 0}, {"escrow 4611686018427387905", api.ErrForm, 0}, {"escrow", api.ErrForm, 0}, {"queue set", api.ErrForm, 6}, {"queue #", api.ErrForm, 6},
	} {
		everywhere(t, "object a "+x.state, x.err, 9+x.at)
		everywhere(t, "object long_name1 "+x.state, x.err, 18+x.at)
	}
	everywhere(t, "object a ->", api.ErrWord, 9)
}

// TestStatesLong: a state of the most numbers that may be, and of one more, which is told where the state begins; one that is none is told first.
func TestStatesLong(t *testing.T) {
	full := strings.Repeat(" 7", 1000)
	everywhere(t, "object a queue"+full+" 7", api.ErrLong, 9)
	everywhere(t, "object bcd queue"+full+" 7 -7", api.ErrLong, 11)
	everywhere(t, "object a queue"+full+" x", api.ErrForm, 9+5+2001)
	everywhere(t, "object a set"+full+" 7", api.ErrForm, 9)
	everywhere(t, "object a counter"+full+" 7", api.ErrForm, 9)
	accepted(t, "object a queue"+full, object("a", first(4, slices.Repeat([]int{7}, 1000)...)))
	for kind, word := range map[int]string{2: "set", 3: "map", 4: "queue"} {
		for _, count := range []int{998, 1000, 1001, 1002} {
			line := "object a " + word
			for _, n := range rising(-500, count) {
				line += " " + put(n)
			}
			switch {
			case kind == 3 && count == 1001:
				refuseText(t, line, api.ErrForm, 9)
			case count > 1000:
				refuseText(t, line, api.ErrLong, 9)
			default:
				expectParse(t, line, []api.Event{object("a", first(kind, rising(-500, count)...))}, api.Fault{})
			}
		}
	}
}

// TestOpsRefused: each error of an operation's words, at the word it tells, or at the line's end.
func TestOpsRefused(t *testing.T) {
	for _, x := range []struct {
		op  string
		err api.Errno
		at  int
	}{
		{"sub 1 -> ok", api.ErrWord, 0}, {"Add 1 -> ok", api.ErrWord, 0}, {"-> ok", api.ErrWord, 0}, {"5", api.ErrWord, 0},
		{"add x -> ok", api.ErrForm, 4}, {"add -> ok", api.ErrForm, 4}, {"add 1 ok", api.ErrForm, 6}, {"add 1 2 -> ok", api.ErrForm, 6}, {"add 9223372036854775808 -> ok", api.ErrForm, 4}, {"put 1 x -> none", api.ErrForm, 6}, {"put 1 2 none", api.ErrForm, 8}, {"read 1 -> 1", api.ErrForm, 5}, {"add 01 -> ok", api.ErrForm, 4},
		{"add 1 -> ok ok", api.ErrForm, 12}, {"insert 5 -> 2 x", api.ErrForm, 14}, {"deposit -1 -> 1 x", api.ErrForm, 16}, {"deq -> none 1", api.ErrForm, 12},
		{"add", api.ErrForm, 3}, {"add 1", api.ErrForm, 5}, {"add 1 ->", api.ErrForm, 8}, {"put 1", api.ErrForm, 5}, {"put 1 22", api.ErrForm, 8}, {"read", api.ErrForm, 4}, {"deposit -1 ->", api.ErrForm, 13},
		{"add 1 -> yes", api.ErrReturn, 9}, {"add 1 -> 1", api.ErrReturn, 9}, {"read -> none", api.ErrReturn, 8}, {"read -> 9223372036854775808", api.ErrReturn, 8}, {"insert 5 -> 2", api.ErrReturn, 12}, {"put 1 10 -> ok", api.ErrReturn, 12}, {"size -> -1", api.ErrReturn, 8}, {"balance -> 4611686018427387905", api.ErrReturn, 11}, {"deq -> 1x", api.ErrReturn, 7},
		{"deposit -1 -> 1", api.ErrArg, 8}, {"withdraw 4611686018427387905 -> 2", api.ErrArg, 9},
	} {
		everywhere(t, "op t a "+x.op, x.err, 7+x.at)
		everywhere(t, "op first_one the_object "+x.op, x.err, 24+x.at)
	}
}

// TestOpsRead: an operation of each kind.
func TestOpsRead(t *testing.T) {
	for text, o := range map[string]api.Op{
		"add 5 -> ok": pair(1, 5, 0, done()), "read -> -3": pair(2, 0, 0, told(-3)), "insert 5 -> 1": pair(3, 5, 0, told(1)), "remove -5 -> 0": pair(4, -5, 0, told(0)), "has 0 -> 0": pair(5, 0, 0, told(0)), "size -> 3": pair(6, 0, 0, told(3)),
		"put 1 10 -> none": pair(7, 1, 10, nothing()), "put 10 1 -> 0": pair(7, 10, 1, told(0)), "get 1 -> -1": pair(8, 1, 0, told(-1)), "del -9223372036854775808 -> none": pair(9, least, 0, nothing()),
		"enq 9223372036854775807 -> ok": pair(10, greatest, 0, done()), "deq -> none": pair(11, 0, 0, nothing()), "len -> 0": pair(12, 0, 0, told(0)),
		"deposit 0 -> 1": pair(13, 0, 0, told(1)), "withdraw 4611686018427387904 -> 0": pair(14, most, 0, told(0)), "balance -> 4611686018427387904": pair(15, 0, 0, told(most)),
	} {
		accepted(t, "op t a "+text, op("t", "a", o))
	}
}

// TestTokenFirst: what is wrong with the text as one of words is told ahead of any line, also of one ahead of it; likewise a line that is too long.
func TestTokenFirst(t *testing.T) {
	full := strings.Repeat("x", maxLine)
	for _, text := range []string{"", "go t\n", "begin\n", "begin T\n", "object a sets\n", "op t a add 1 -> 1\n", "begin t\n"} {
		refuseText(t, text+" begin t", api.ErrForm, len(text))
		refuseText(t, text+"begin  t", api.ErrForm, len(text)+6)
		refuseText(t, text+"begin t \n", api.ErrForm, len(text)+8)
		refuseText(t, text+"begin\tt", api.ErrForm, len(text)+5)
		refuseText(t, text+"begin t\nabort\x80", api.ErrForm, len(text)+13)
		refuseText(t, text+full+"x", api.ErrLong, len(text))
		refuseText(t, text+"#"+full+"\n", api.ErrLong, len(text))
		refuseText(t, text+"begin t\n"+full+"x\n begin", api.ErrLong, len(text)+8)
	}
}

// TestLineLong: a line of just 65,536 bytes may be, and is told for itself; one of more is too long.
func TestLineLong(t *testing.T) {
	refuseText(t, strings.Repeat("x", maxLine), api.ErrWord, 0)
	refuseText(t, "begin "+strings.Repeat("x", maxLine-6), api.ErrName, 6)
	refuseText(t, "begin "+strings.Repeat("x", maxLine-5), api.ErrLong, 0)
	expectParse(t, "#"+strings.Repeat(" ", maxLine-1)+"\nbegin t", []api.Event{begin("t")}, api.Fault{})
	refuseText(t, "begin t\n#"+strings.Repeat(" ", maxLine)+"\nbegin t", api.ErrLong, 8)

	queue := "object a queue" + strings.Repeat(" 7", (maxLine-14)/2)
	if len(queue) != maxLine {
		t.Fatal("the test itself is wrong:", len(queue))
	}
	refuseText(t, queue, api.ErrLong, 9)
	refuseText(t, queue+"7", api.ErrLong, 0)
	refuseText(t, queue[:maxLine-1]+"x", api.ErrForm, maxLine-1)
	words := "op t a deq" + strings.Repeat(" 7", (maxLine-10)/2)
	refuseText(t, words, api.ErrForm, 11)
	refuseText(t, words+"7", api.ErrLong, 0)
	words = "op t a deq -> none" + strings.Repeat(" 7", (maxLine-18)/2)
	refuseText(t, words, api.ErrForm, 19)
}

// TestTextLong: a text of just 2^26 bytes is read to its end; one of more is too long, whatever else is wrong with it.
func TestTextLong(t *testing.T) {
	room := []byte(strings.Repeat("#"+strings.Repeat("x", maxLine-1)+"\n", 1+maxText/maxLine))
	copy(room, "begin t\n#")
	text := room[:maxText+1]
	copy(text[maxText-10:], "\ncommit t\n")
	want := []api.Event{begin("t"), commit("t")}
	if l, f := grammar.Parse(text[:maxText]); !like(l, want) || f != (api.Fault{}) {
		t.Error("all:", len(l), f)
	}
	copy(text[maxText-10:], "\n#\ncommit t")
	if l, f := grammar.Parse(text); len(l) > 0 || f != fault(api.ErrLong, maxText) {
		t.Error("one byte more:", len(l), f)
	}
	if l, f := grammar.Parse(text[:maxText]); len(l) > 0 || f != fault(api.ErrForm, maxText) {
		t.Error("cut:", len(l), f)
	}
	copy(text, "go\tt T\n#")
	if l, f := grammar.Parse(text); len(l) > 0 || f != fault(api.ErrLong, maxText) {
		t.Error("one byte more, and a wrong line:", len(l), f)
	}
}

// TestFirstLineWrong: of two lines that are wrong the first one is told, whatever is wrong with either; and no event.
func TestFirstLineWrong(t *testing.T) {
	wrong := []struct {
		line string
		err  api.Errno
		at   int
	}{
		{"go t", api.ErrWord, 0}, {"begin", api.ErrForm, 5}, {"commit T", api.ErrName, 7}, {"abort t u", api.ErrForm, 8}, {"object a sets", api.ErrWord, 9}, {"object a counter 9223372036854775808", api.ErrRange, 17},
		{"object a queue" + strings.Repeat(" 1", 1001), api.ErrLong, 9}, {"op t a add 1 -> 1", api.ErrReturn, 16}, {"op t a deposit -1 -> 1", api.ErrArg, 15},
	}
	for _, a := range wrong {
		for _, b := range wrong {
			refuseText(t, a.line+"\n"+b.line, a.err, a.at)
			refuseText(t, "begin t\n"+a.line+"\ncommit t\n"+b.line+"\n", a.err, 8+a.at)
		}
		everywhere(t, a.line, a.err, a.at)
	}
}

// pieces are words of lines, and what else may stand between them.
func pieces() []string {
	return []string{"object", "begin", "op", "commit", "abort", "a", "t", "T", "counter", "set", "map", "queue", "escrow", "add", "insert", "put", "deq", "deposit", "balance", "->", "ok", "none", "0", "1", "2", "-1", "01", "x", "4611686018427387905", "99999999999999999999", "111111111111111111111", "#", "~", "", "\x00", "\xff"}
}

// TestParseEverywhere holds Parse against the chapter's words at all lines of up to three pieces, and of four and five behind what may stand ahead of them.
func TestParseEverywhere(t *testing.T) {
	for _, a := range pieces() {
		holdText(t, a)
		for _, b := range pieces() {
			holdText(t, a+" "+b)
			holdText(t, a+"\n"+b)
			for _, c := range pieces() {
				holdText(t, a+" "+b+" "+c)
				holdText(t, "object a "+a+" "+b+" "+c)
				holdText(t, "op t a "+a+" "+b+" "+c)
				holdText(t, "begin t\nop t a "+a+" 1 "+b+" "+c+"\n")
			}
		}
	}
}

// TestParseDrawn holds Parse against the chapter's words at drawn words and lines.
func TestParseDrawn(t *testing.T) {
	d := drawer(2)
	good := 0
	for range 30000 {
		var text []string
		for range 1 + d.below(4) {
			text = append(text, drawnLine(&d))
		}
		whole := strings.Join(text, "\n") + pick(&d, []string{"", "\n", "\n\n"})
		holdText(t, whole)
		if _, f := parsed(whole); f.Err == api.OK {
			good++
		}
	}
	if good < 3000 || good > 27000 {
		t.Error("the test itself is wrong:", good)
	}
}

// drawnLine draws a line: one that may be, one of those with a word changed, taken out or set in, or drawn words.
func drawnLine(d *drawer) string {
	line, _ := lined(event(d))
	words := strings.Split(line, " ")
	at := d.below(len(words))
	switch d.below(12) {
	case 0:
		words[at] = pick(d, pieces())
	case 1:
		words = slices.Delete(words, at, at+1)
	case 2:
		words = slices.Insert(words, at, pick(d, pieces()))
	case 3:
		words = nil
		for range d.below(7) {
			words = append(words, pick(d, pieces()))
		}
	}
	return strings.Join(words, " ")
}

// TestParseBytes: no bytes make a call panic, and each is told by the chapter's words.
func TestParseBytes(t *testing.T) {
	d := drawer(3)
	letters := "abot pcme\n#->015ni \n\x00\xff"
	for range 30000 {
		b := make([]byte, d.below(30))
		for i := range b {
			b[i] = letters[d.below(len(letters))]
			if d.below(40) == 0 {
				b[i] = byte(d.below(256))
			}
		}
		holdText(t, string(b))
	}
}
