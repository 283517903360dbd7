package operation_test

import (
	"math"
	"math/big"
	"regexp"
	"slices"
	"strings"
	"testing"

	"armistice/api"
	"armistice/operation"
)

// The calls must keep the chapter's signatures.
var (
	_ func(int) (int, api.Errno)               = operation.Type
	_ func(int) (string, api.Errno)            = operation.Word
	_ func(string) (int, api.Errno)            = operation.Kind
	_ func(api.Op) api.Errno                   = operation.Check
	_ func(api.Op) (string, api.Errno)         = operation.Text
	_ func(...string) (api.Op, int, api.Errno) = operation.Read
)

// The most that an account holds, that a number is, and the least.
const (
	most     = 1 << 62
	greatest = math.MaxInt
	least    = math.MinInt
)

// row is a row of the chapter's table, with the numbers of DOC.md; of the returns each stands for itself, but n for any number, b for 0 or 1, and c for 0 to Cap.
type row struct {
	kind, object int
	word         string
	args         int
	capped       bool
	returns      string
}

func table() []row {
	return []row{
		{1, 1, "add", 1, false, "ok"}, {2, 1, "read", 0, false, "n"},
		{3, 2, "insert", 1, false, "b"}, {4, 2, "remove", 1, false, "b"}, {5, 2, "has", 1, false, "b"}, {6, 2, "size", 0, false, "c"},
		{7, 3, "put", 2, false, "none n"}, {8, 3, "get", 1, false, "none n"}, {9, 3, "del", 1, false, "none n"},
		{10, 4, "enq", 1, false, "ok"}, {11, 4, "deq", 0, false, "none n"}, {12, 4, "len", 0, false, "c"},
		{13, 5, "deposit", 1, true, "b"}, {14, 5, "withdraw", 1, true, "b"}, {15, 5, "balance", 0, false, "c"},
	}
}

// noKinds are numbers of which none is a kind's.
func noKinds() []int {
	return []int{0, -1, 16, 17, -2, -15, 31, 255, 256, 257, 1<<32 + 1, least, least + 1, greatest}
}

// edges are numbers about which something changes.
func edges() []int {
	return []int{least, least + 1, -most, -2, -1, 0, 1, 2, 3, most - 1, most, most + 1, greatest}
}

func done() api.Ret           { return api.Ret{} }
func none() api.Ret           { return api.Ret{Kind: 1} }
func number(n int) api.Ret    { return api.Ret{Kind: 2, N: n} }
func words(s string) []string { return strings.Fields(s) }

// may tells whether a return is one of those that a row names.
func (x row) may(r api.Ret) bool {
	for _, w := range strings.Fields(x.returns) {
		switch {
		case w == "ok" && r == done(), w == "none" && r == none():
			return true
		case w == "n" && r.Kind == 2, w == "b" && (r == number(0) || r == number(1)), w == "c" && r.Kind == 2 && r.N >= 0 && r.N <= most:
			return true
		}
	}
	return false
}

// checked is what Check must answer.
func checked(op api.Op) api.Errno {
	at := slices.IndexFunc(table(), func(x row) bool { return x.kind == op.Kind })
	if at < 0 {
		return api.ErrWord
	}
	x := table()[at]
	if x.args < 2 && op.B != 0 || x.args < 1 && op.A != 0 || x.capped && (op.A < 0 || op.A > most) {
		return api.ErrArg
	}
	if !x.may(op.Ret) {
		return api.ErrReturn
	}
	return api.OK
}

// shape is a number's text.
var shape = regexp.MustCompile(`\A(0|-?[1-9][0-9]*)\z`)

// got tells the number of which s is the text, and whether it is one.
func got(s string) (int, bool) {
	if !shape.MatchString(s) {
		return 0, false
	}
	n, _ := new(big.Int).SetString(s, 10)
	return int(n.Int64()), n.IsInt64()
}

// put tells a number's text.
func put(n int) string { return big.NewInt(int64(n)).String() }

// told is the text of an operation that may be.
func told(op api.Op) string {
	x := table()[op.Kind-1]
	s := x.word
	for _, n := range []int{op.A, op.B}[:x.args] {
		s += " " + put(n)
	}
	return s + " -> " + map[int]string{0: "ok", 1: "none", 2: put(op.Ret.N)}[op.Ret.Kind]
}

// read is what Read must answer, by the chapter's words.
func read(words []string) (api.Op, int, api.Errno) {
	if len(words) == 0 {
		return api.Op{}, 0, api.ErrForm
	}
	i := slices.IndexFunc(table(), func(x row) bool { return x.word == words[0] })
	if i < 0 {
		return api.Op{}, 0, api.ErrWord
	}
	op, x := api.Op{Kind: i + 1}, table()[i]
	for at, w := range words {
		n, isNumber := got(w)
		switch {
		case at == 0:
		case at > x.args+2, at <= x.args && !isNumber, at == x.args+1 && w != "->":
			return api.Op{}, at, api.ErrForm
		case at == x.args+1:
		case at > x.args && w == "ok":
		case at > x.args && w == "none":
			op.Ret = none()
		case at > x.args && !isNumber:
			return api.Op{}, at, api.ErrReturn
		case at > x.args:
			op.Ret = number(n)
		case at == 1:
			op.A = n
		case at == 2:
			op.B = n
		}
	}
	if len(words) < x.args+3 {
		return api.Op{}, len(words), api.ErrForm
	}
	switch e := checked(op); e {
	case api.ErrArg:
		return api.Op{}, 1, e
	case api.ErrReturn:
		return api.Op{}, x.args + 2, e
	}
	return op, 0, api.OK
}

func expectCheck(t *testing.T, op api.Op, want api.Errno) {
	t.Helper()
	if e := operation.Check(op); e != want {
		t.Errorf("Check(%v): %v; want %v", op, e, want)
	}
}

func expectText(t *testing.T, op api.Op, want string, err api.Errno) {
	t.Helper()
	if s, e := operation.Text(op); s != want || e != err {
		t.Errorf("Text(%v): %q, %v; want %q, %v", op, s, e, want, err)
	}
}

func expectKind(t *testing.T, word string, want int, err api.Errno) {
	t.Helper()
	if k, e := operation.Kind(word); k != want || e != err {
		t.Errorf("Kind(%.60q): %d, %v; want %d, %v", word, k, e, want, err)
	}
}

func expectRead(t *testing.T, words []string, want api.Op, wantAt int, err api.Errno) {
	t.Helper()
	if op, at, e := operation.Read(words...); op != want || at != wantAt || e != err {
		t.Errorf("Read(%.60q): %v, %d, %v; want %v, %d, %v", words, op, at, e, want, wantAt, err)
	}
}

// expectWrong holds that words are refused there.
func expectWrong(t *testing.T, words []string, at int, err api.Errno) {
	t.Helper()
	expectRead(t, words, api.Op{}, at, err)
}

// TestExamples holds the chapter's table.
func TestExamples(t *testing.T) {
	insert, add := api.Op{Kind: api.Insert, A: 5, Ret: number(1)}, api.Op{Kind: api.Add, A: 5}
	expectText(t, insert, "insert 5 -> 1", api.OK)
	expectText(t, api.Op{Kind: api.Put, A: 1, B: 10, Ret: none()}, "put 1 10 -> none", api.OK)
	expectText(t, api.Op{Kind: api.Read, Ret: number(-3)}, "read -> -3", api.OK)
	expectText(t, add, "add 5 -> ok", api.OK)

	expectCheck(t, api.Op{Kind: api.Insert, A: 5, Ret: number(2)}, api.ErrReturn)
	expectCheck(t, api.Op{Kind: api.Add, A: 5, Ret: number(1)}, api.ErrReturn)
	expectCheck(t, api.Op{Kind: api.Size, A: 1, Ret: number(3)}, api.ErrArg)
	expectCheck(t, api.Op{Kind: api.Deposit, A: -1, Ret: number(1)}, api.ErrArg)
	expectCheck(t, api.Op{Kind: 16}, api.ErrWord)

	expectRead(t, words("insert 5 -> 1"), insert, 0, api.OK)
	for _, x := range []struct {
		text string
		at   int
		err  api.Errno
	}{
		{"", 0, api.ErrForm}, {"ins 5", 0, api.ErrWord}, {"insert x -> 1", 1, api.ErrForm}, {"insert 5 - 1", 2, api.ErrForm}, {"insert 5", 2, api.ErrForm}, {"insert 5 -> 1 2", 4, api.ErrForm},
		{"insert 5 -> no", 3, api.ErrReturn}, {"insert 5 -> 2", 3, api.ErrReturn}, {"deposit -1 -> 1", 1, api.ErrArg},
	} {
		expectWrong(t, words(x.text), x.at, x.err)
	}
}

// P4.1: Type, Word and Kind.

func TestKinds(t *testing.T) {
	for _, x := range table() {
		if k, e := operation.Type(x.kind); k != x.object || e != api.OK {
			t.Errorf("Type(%d): %d, %v", x.kind, k, e)
		}
		if w, e := operation.Word(x.kind); w != x.word || e != api.OK {
			t.Errorf("Word(%d): %q, %v", x.kind, w, e)
		}
		expectKind(t, x.word, x.kind, api.OK)
	}
}

func TestNoKinds(t *testing.T) {
	for _, kind := range noKinds() {
		if k, e := operation.Type(kind); k != 0 || e != api.ErrWord {
			t.Errorf("Type(%d): %d, %v", kind, k, e)
		}
		if w, e := operation.Word(kind); w != "" || e != api.ErrWord {
			t.Errorf("Word(%d): %q, %v", kind, w, e)
		}
		expectCheck(t, api.Op{Kind: kind}, api.ErrWord)
		expectText(t, api.Op{Kind: kind}, "", api.ErrWord)
	}
}

// TestNearlyWords: texts that are a byte, a letter's size or a piece away from a kind's word.
func TestNearlyWords(t *testing.T) {
	some := []string{"", " ", "->", "ok", "none", "0", "1", "-1", "object", "begin", "op", "commit", "abort", "counter", "set", "map", "queue", "escrow", "sub", "ins", "length", "delete", "adд", "\xff", strings.Repeat("add", 1<<20)}
	for _, x := range table() {
		some = append(some, strings.ToUpper(x.word), strings.ToUpper(x.word[:1])+x.word[1:], x.word+x.word, x.word+" 1", x.word+" 1 -> ok", x.word[:len(x.word)-1])
		for i := range len(x.word) {
			some = append(some, x.word[:i], x.word[i+1:], x.word[:i]+x.word[i+1:])
			for b := range 256 {
				c := string([]byte{byte(b)})
				some = append(some, x.word[:i]+c+x.word[i+1:], x.word[:i]+c+x.word[i:], x.word+c)
			}
		}
	}
	nearly := 0
	for _, s := range some {
		if i := slices.IndexFunc(table(), func(x row) bool { return x.word == s }); i >= 0 {
			expectKind(t, s, i+1, api.OK)
			continue
		}
		nearly++
		expectKind(t, s, 0, api.ErrWord)
		expectWrong(t, []string{s}, 0, api.ErrWord)
		expectWrong(t, []string{s, "1", "->", "ok"}, 0, api.ErrWord)
	}
	if nearly < 40000 {
		t.Error("the test itself is wrong:", nearly)
	}
}

// P4.1: Check.

// sound are operations that may be, of each kind at least one.
func sound() []api.Op {
	var out []api.Op
	for _, x := range table() {
		for _, a := range edges() {
			for _, b := range edges() {
				for _, r := range returns() {
					if op := (api.Op{Kind: x.kind, A: a, B: b, Ret: r}); checked(op) == api.OK {
						out = append(out, op)
					}
				}
			}
		}
	}
	return out
}

// returns are those that some kind may have, and others.
func returns() []api.Ret {
	var out []api.Ret
	for _, kind := range []int{0, 1, 2, 3, 4, -1, least, greatest} {
		for _, n := range edges() {
			out = append(out, api.Ret{Kind: kind, N: n})
		}
	}
	return out
}

func TestCheckArguments(t *testing.T) {
	free, capped, without := []int{1, 3, 4, 5, 7, 8, 9, 10}, []int{13, 14}, []int{2, 6, 11, 12, 15}
	returns := map[int]api.Ret{1: done(), 7: none(), 8: none(), 9: none(), 10: done()}
	of := func(kind int) api.Ret {
		if r, ok := returns[kind]; ok {
			return r
		}
		return number(0)
	}
	for _, n := range edges() {
		for _, kind := range free {
			expectCheck(t, api.Op{Kind: kind, A: n, Ret: of(kind)}, api.OK)
		}
		expectCheck(t, api.Op{Kind: api.Put, B: n, Ret: none()}, api.OK)
		expectCheck(t, api.Op{Kind: api.Put, A: n, B: n, Ret: none()}, api.OK)
	}
	for _, kind := range capped {
		for _, n := range []int{0, 1, 2, most - 1, most} {
			expectCheck(t, api.Op{Kind: kind, A: n, Ret: number(1)}, api.OK)
			expectCheck(t, api.Op{Kind: kind, A: n, Ret: number(0)}, api.OK)
		}
		for _, n := range []int{-1, -2, -most, least, most + 1, greatest} {
			expectCheck(t, api.Op{Kind: kind, A: n, Ret: number(1)}, api.ErrArg)
			expectCheck(t, api.Op{Kind: kind, A: n, Ret: number(0)}, api.ErrArg)
		}
	}
	for _, n := range []int{-1, 1, 2, most, most + 1, least, greatest} {
		for _, kind := range without {
			expectCheck(t, api.Op{Kind: kind, A: n, Ret: of(kind)}, api.ErrArg)
			expectCheck(t, api.Op{Kind: kind, B: n, Ret: of(kind)}, api.ErrArg)
			expectCheck(t, api.Op{Kind: kind, A: n, B: -n, Ret: of(kind)}, api.ErrArg)
		}
		for kind := 1; kind <= 15; kind++ {
			if kind != api.Put {
				expectCheck(t, api.Op{Kind: kind, B: n, Ret: of(kind)}, api.ErrArg)
			}
		}
	}
	for _, kind := range without {
		expectCheck(t, api.Op{Kind: kind, Ret: of(kind)}, api.OK)
	}
}

func TestCheckReturns(t *testing.T) {
	for _, x := range []struct {
		kinds  []int
		takes  []api.Ret
		leaves []api.Ret
	}{
		{[]int{1, 10}, []api.Ret{done()}, []api.Ret{none(), number(0), number(1), number(-1)}},
		{[]int{2}, []api.Ret{number(0), number(1), number(-1), number(least), number(greatest), number(most + 1)}, []api.Ret{done(), none()}},
		{[]int{3, 4, 5, 13, 14}, []api.Ret{number(0), number(1)}, []api.Ret{done(), none(), number(2), number(-1), number(most), number(least), number(greatest)}},
		{[]int{6, 12, 15}, []api.Ret{number(0), number(1), number(2), number(most - 1), number(most)}, []api.Ret{done(), none(), number(-1), number(most + 1), number(least), number(greatest)}},
		{[]int{7, 8, 9, 11}, []api.Ret{none(), number(0), number(1), number(-1), number(least), number(greatest), number(most + 1)}, []api.Ret{done()}},
	} {
		for _, kind := range x.kinds {
			for _, r := range x.takes {
				expectCheck(t, api.Op{Kind: kind, Ret: r}, api.OK)
			}
			for _, r := range x.leaves {
				expectCheck(t, api.Op{Kind: kind, Ret: r}, api.ErrReturn)
			}
		}
	}
}

// TestCheckReturnsOfNoForm: a number beside ok or none, and kinds of returns that there are not.
func TestCheckReturnsOfNoForm(t *testing.T) {
	for kind := 1; kind <= 15; kind++ {
		for _, n := range []int{1, -1, 2, most, least, greatest} {
			expectCheck(t, api.Op{Kind: kind, Ret: api.Ret{Kind: 0, N: n}}, api.ErrReturn)
			expectCheck(t, api.Op{Kind: kind, Ret: api.Ret{Kind: 1, N: n}}, api.ErrReturn)
		}
		for _, r := range []int{3, 4, -1, -2, 256, 258, 1<<32 + 2, least, greatest} {
			for _, n := range []int{0, 1, -1} {
				expectCheck(t, api.Op{Kind: kind, Ret: api.Ret{Kind: r, N: n}}, api.ErrReturn)
			}
		}
	}
}

// TestCheckErrorsInOrder: of what is wrong at once the kind is told first, then an argument, then the return.
func TestCheckErrorsInOrder(t *testing.T) {
	for _, kind := range noKinds() {
		expectCheck(t, api.Op{Kind: kind, A: -1, B: -1, Ret: api.Ret{Kind: 9, N: 9}}, api.ErrWord)
	}
	wrong := api.Ret{Kind: 3}
	for kind := 1; kind <= 15; kind++ {
		if kind != api.Put {
			expectCheck(t, api.Op{Kind: kind, B: 1, Ret: wrong}, api.ErrArg)
		}
	}
	expectCheck(t, api.Op{Kind: api.Put, A: -1, B: -1, Ret: wrong}, api.ErrReturn)
	expectCheck(t, api.Op{Kind: api.Deposit, A: -1, Ret: number(7)}, api.ErrArg)
	expectCheck(t, api.Op{Kind: api.Withdraw, A: most + 1, Ret: none()}, api.ErrArg)
	expectCheck(t, api.Op{Kind: api.Read, A: 1, Ret: done()}, api.ErrArg)
	expectCheck(t, api.Op{Kind: api.Size, A: 1, Ret: number(-1)}, api.ErrArg)
	expectCheck(t, api.Op{Kind: api.Balance, B: 1, Ret: number(most + 1)}, api.ErrArg)
}

// TestCheckEverywhere holds Check and Text against the chapter's words at all edges together.
func TestCheckEverywhere(t *testing.T) {
	kinds := append(noKinds(), 1, 2, 3, 4, 5, 6, 7, 8, 9, 10, 11, 12, 13, 14, 15)
	for _, kind := range kinds {
		for _, a := range edges() {
			for _, b := range edges() {
				for _, r := range returns() {
					op := api.Op{Kind: kind, A: a, B: b, Ret: r}
					want, text := checked(op), ""
					if want == api.OK {
						text = told(op)
					}
					expectCheck(t, op, want)
					expectText(t, op, text, want)
				}
			}
		}
	}
}

// P4.2: Text.

func TestText(t *testing.T) {
	for _, x := range []struct {
		op   api.Op
		want string
	}{
		{api.Op{Kind: api.Add}, "add 0 -> ok"}, {api.Op{Kind: api.Add, A: least}, "add -9223372036854775808 -> ok"},
		{api.Op{Kind: api.Read, Ret: number(greatest)}, "read -> 9223372036854775807"},
		{api.Op{Kind: api.Insert, A: -5, Ret: number(0)}, "insert -5 -> 0"}, {api.Op{Kind: api.Remove, A: 7, Ret: number(1)}, "remove 7 -> 1"}, {api.Op{Kind: api.Has, Ret: number(0)}, "has 0 -> 0"}, {api.Op{Kind: api.Size, Ret: number(0)}, "size -> 0"},
		{api.Op{Kind: api.Put, Ret: none()}, "put 0 0 -> none"}, {api.Op{Kind: api.Put, A: 1, B: -2, Ret: number(0)}, "put 1 -2 -> 0"}, {api.Op{Kind: api.Get, A: 3, Ret: none()}, "get 3 -> none"}, {api.Op{Kind: api.Del, A: 3, Ret: number(-4)}, "del 3 -> -4"},
		{api.Op{Kind: api.Enq, A: 9}, "enq 9 -> ok"}, {api.Op{Kind: api.Deq, Ret: none()}, "deq -> none"}, {api.Op{Kind: api.Deq, Ret: number(9)}, "deq -> 9"}, {api.Op{Kind: api.Len, Ret: number(most)}, "len -> 4611686018427387904"},
		{api.Op{Kind: api.Deposit, A: most, Ret: number(1)}, "deposit 4611686018427387904 -> 1"}, {api.Op{Kind: api.Withdraw, Ret: number(0)}, "withdraw 0 -> 0"}, {api.Op{Kind: api.Balance, Ret: number(12)}, "balance -> 12"},
	} {
		expectText(t, x.op, x.want, api.OK)
		expectRead(t, words(x.want), x.op, 0, api.OK)
	}
}

func TestTextTellsErrorsOfCheck(t *testing.T) {
	expectText(t, api.Op{Kind: 16}, "", api.ErrWord)
	expectText(t, api.Op{}, "", api.ErrWord)
	expectText(t, api.Op{Kind: api.Get, B: 1, Ret: none()}, "", api.ErrArg)
	expectText(t, api.Op{Kind: api.Deposit, A: most + 1, Ret: number(5)}, "", api.ErrArg)
	expectText(t, api.Op{Kind: api.Deq}, "", api.ErrReturn)
	expectText(t, api.Op{Kind: api.Add, Ret: api.Ret{N: 1}}, "", api.ErrReturn)
	expectText(t, api.Op{Kind: api.Deq, Ret: api.Ret{Kind: 1, N: 1}}, "", api.ErrReturn)
}

// P4.3: Read.

// sample is an operation's text of each kind.
func sample() []string {
	return []string{"add 5 -> ok", "read -> -3", "insert 5 -> 1", "remove 5 -> 0", "has 5 -> 1", "size -> 3", "put 1 10 -> none", "get 1 -> 10", "del 1 -> none", "enq 5 -> ok", "deq -> none", "len -> 3", "deposit 5 -> 1", "withdraw 5 -> 0", "balance -> 5"}
}

// noNumbers are words that are no number's text.
func noNumbers() []string {
	return []string{"", "-", "+", "x", "-x", "-0", "00", "007", "-01", "+1", "1x", "1.0", "1_0", "0x1", "1e3", "1 ", " 1", "1\n", "\x00", "\xff", "٣", "9223372036854775808", "-9223372036854775809", "18446744073709551617", "100000000000000000000", strings.Repeat("1", 1000), "=>", "OK", "None", "yes", "nil"}
}

func TestReadNothing(t *testing.T) {
	expectWrong(t, nil, 0, api.ErrForm)
	expectWrong(t, []string{}, 0, api.ErrForm)
	expectWrong(t, []string{""}, 0, api.ErrWord)
	expectWrong(t, []string{"", ""}, 0, api.ErrWord)
	expectWrong(t, []string{"insert 5 -> 1"}, 0, api.ErrWord)
}

// TestReadTooFewOrTooMany: a word too few at each place, and words too many.
func TestReadTooFewOrTooMany(t *testing.T) {
	for _, s := range sample() {
		l := words(s)
		for n := 1; n < len(l); n++ {
			expectWrong(t, l[:n], n, api.ErrForm)
		}
		for _, w := range []string{"ok", "none", "1", "->", "x", "", l[0]} {
			expectWrong(t, append(slices.Clone(l), w), len(l), api.ErrForm)
			expectWrong(t, append(slices.Clone(l), w, w, w), len(l), api.ErrForm)
		}
		expectWrong(t, append(slices.Clone(l), l...), len(l), api.ErrForm)
	}
	expectWrong(t, append(words("add 1 -> ok"), make([]string, 1<<20)...), 4, api.ErrForm)
}

// TestReadWrongWords: at each place what may not stand there.
func TestReadWrongWords(t *testing.T) {
	arrows := []string{"", "-", ">", "=>", "-->", "->>", "→", "- >", "<-", " ->", "-> ", "ok", "none", "1", "x"}
	for _, s := range sample() {
		l := words(s)
		with := func(at int, w string) []string {
			out := slices.Clone(l)
			out[at] = w
			return out
		}
		for at := 1; at < len(l)-2; at++ {
			for _, w := range append(noNumbers(), "ok", "none", "->") {
				expectWrong(t, with(at, w), at, api.ErrForm)
				expectWrong(t, with(at, w)[:at+1], at, api.ErrForm)
			}
		}
		for _, w := range arrows {
			expectWrong(t, with(len(l)-2, w), len(l)-2, api.ErrForm)
			expectWrong(t, with(len(l)-2, w)[:len(l)-1], len(l)-2, api.ErrForm)
		}
		for _, w := range append(noNumbers(), "->", "ok ", " none", "Ok", "no", "nothing") {
			expectWrong(t, with(len(l)-1, w), len(l)-1, api.ErrReturn)
			expectWrong(t, append(with(len(l)-1, w), "1"), len(l)-1, api.ErrReturn)
		}
		// An argument lacks or is too many, so that the arrow stands elsewhere.
		expectWrong(t, slices.Insert(slices.Clone(l), len(l)-2, "1"), len(l)-2, api.ErrForm)
		if len(l) > 3 {
			expectWrong(t, slices.Delete(slices.Clone(l), 1, 2), len(l)-3, api.ErrForm)
		}
	}
}

// TestReadFirstWrong: of two wrong words the first is told, and one that lacks or is too many behind them.
func TestReadFirstWrong(t *testing.T) {
	for _, x := range []struct {
		text string
		at   int
		err  api.Errno
	}{
		{"sub x => yes", 0, api.ErrWord}, {"put x y => yes no", 1, api.ErrForm}, {"put 1 y => yes no", 2, api.ErrForm}, {"put 1 2 => yes no", 3, api.ErrForm}, {"put 1 2 -> yes no", 4, api.ErrReturn}, {"put 1 2 -> none no", 5, api.ErrForm},
		{"put x", 1, api.ErrForm}, {"put 1 x", 2, api.ErrForm}, {"put 1 2 x", 3, api.ErrForm}, {"put 1 2 ->", 4, api.ErrForm}, {"put 1 2", 3, api.ErrForm}, {"put 1", 2, api.ErrForm}, {"put", 1, api.ErrForm},
		{"read x", 1, api.ErrForm}, {"read", 1, api.ErrForm}, {"read ->", 2, api.ErrForm}, {"read -> x y", 2, api.ErrReturn}, {"read 1 -> 2", 1, api.ErrForm},
		{"add 1 -> 5 x", 4, api.ErrForm}, {"deposit -1 -> 1 x", 4, api.ErrForm}, {"deposit -1 -> yes", 3, api.ErrReturn}, {"deposit -1 ->", 3, api.ErrForm}, {"deposit -1", 2, api.ErrForm}, {"deposit -1 =>", 2, api.ErrForm}, {"size -> -1 x", 3, api.ErrForm},
	} {
		expectWrong(t, words(x.text), x.at, x.err)
	}
}

// TestReadWhatCheckRefuses: words of the right form, of an operation that may not be.
func TestReadWhatCheckRefuses(t *testing.T) {
	for _, x := range []struct {
		text string
		at   int
		err  api.Errno
	}{
		{"deposit -1 -> 0", 1, api.ErrArg}, {"withdraw -1 -> 1", 1, api.ErrArg}, {"deposit 4611686018427387905 -> 1", 1, api.ErrArg}, {"withdraw 9223372036854775807 -> 1", 1, api.ErrArg}, {"withdraw -9223372036854775808 -> 1", 1, api.ErrArg},
		// The argument goes ahead of the return.
		{"deposit -1 -> 7", 1, api.ErrArg}, {"withdraw 4611686018427387905 -> none", 1, api.ErrArg}, {"deposit -1 -> ok", 1, api.ErrArg},
		{"deposit 1 -> 7", 3, api.ErrReturn}, {"deposit 4611686018427387904 -> ok", 3, api.ErrReturn}, {"withdraw 0 -> none", 3, api.ErrReturn}, {"withdraw 1 -> -1", 3, api.ErrReturn},
		{"add 1 -> none", 3, api.ErrReturn}, {"add 1 -> 0", 3, api.ErrReturn}, {"read -> ok", 2, api.ErrReturn}, {"read -> none", 2, api.ErrReturn},
		{"insert 1 -> ok", 3, api.ErrReturn}, {"remove 1 -> none", 3, api.ErrReturn}, {"has 1 -> 2", 3, api.ErrReturn}, {"has 1 -> -1", 3, api.ErrReturn}, {"size -> -1", 2, api.ErrReturn}, {"size -> 4611686018427387905", 2, api.ErrReturn}, {"size -> none", 2, api.ErrReturn},
		{"put 1 2 -> ok", 4, api.ErrReturn}, {"get 1 -> ok", 3, api.ErrReturn}, {"del 1 -> ok", 3, api.ErrReturn},
		{"enq 1 -> 1", 3, api.ErrReturn}, {"enq 1 -> none", 3, api.ErrReturn}, {"deq -> ok", 2, api.ErrReturn}, {"len -> -1", 2, api.ErrReturn}, {"len -> ok", 2, api.ErrReturn}, {"balance -> -1", 2, api.ErrReturn}, {"balance -> 4611686018427387905", 2, api.ErrReturn}, {"balance -> ok", 2, api.ErrReturn},
	} {
		expectWrong(t, words(x.text), x.at, x.err)
	}
}

// TestReadEverywhere holds Read against the chapter's words at all short lists of words.
func TestReadEverywhere(t *testing.T) {
	first := []string{"add", "read", "insert", "remove", "has", "size", "put", "get", "del", "enq", "deq", "len", "deposit", "withdraw", "balance", "sub", "Add", ""}
	later := []string{"->", "ok", "none", "0", "2", "-1", "4611686018427387905", "x"}
	var extend func(l []string)
	extend = func(l []string) {
		op, at, e := read(l)
		expectRead(t, l, op, at, e)
		if len(l) > 5 || e == api.ErrWord && len(l) > 2 {
			return
		}
		for _, w := range later {
			extend(append(l[:len(l):len(l)], w))
		}
	}
	for _, w := range first {
		extend([]string{w})
	}
}

// Rule 4: words that are handed in stay as they were, and what stands behind them is not read.
func TestReadMemory(t *testing.T) {
	room := words("put 1 2 -> none 7 spare")
	kept := slices.Clone(room)
	for n := range 7 {
		op, at, e := read(room[:n:n])
		expectRead(t, room[:n], op, at, e)
	}
	if !slices.Equal(room, kept) {
		t.Error("the words have changed:", room)
	}
}

// P4.4: what follows.

// TestToldIsRead: what is told as text is read as it was.
func TestToldIsRead(t *testing.T) {
	all := sound()
	if len(all) < 1000 {
		t.Fatal("the test itself is wrong:", len(all))
	}
	seen := map[string]api.Op{}
	for _, op := range all {
		s, e := operation.Text(op)
		if e != api.OK {
			t.Fatalf("Text(%v): %v", op, e)
		}
		if other, ok := seen[s]; ok {
			t.Fatalf("%v and %v have one text, %q", op, other, s)
		}
		seen[s] = op
		expectRead(t, strings.Split(s, " "), op, 0, api.OK)
	}
}

// TestReadIsTold: what is read is told as it was, and may be.
func TestReadIsTold(t *testing.T) {
	numbers := []string{"0", "1", "-1", "2", "4611686018427387904", "4611686018427387905", "9223372036854775807", "-9223372036854775808"}
	results := append([]string{"ok", "none"}, numbers...)
	taken := map[string]int{}
	for _, x := range table() {
		lists := [][]string{{x.word}}
		for range x.args {
			var longer [][]string
			for _, l := range lists {
				for _, w := range numbers {
					longer = append(longer, append(slices.Clone(l), w))
				}
			}
			lists = longer
		}
		for _, l := range lists {
			for _, w := range results {
				whole := append(slices.Clone(l), "->", w)
				op, _, e := operation.Read(whole...)
				if e != api.OK {
					continue
				}
				taken[x.word]++
				expectCheck(t, op, api.OK)
				expectText(t, op, strings.Join(whole, " "), api.OK)
			}
		}
	}
	want := map[string]int{"add": 8, "read": 8, "insert": 16, "remove": 16, "has": 16, "size": 4, "put": 576, "get": 72, "del": 72, "enq": 8, "deq": 9, "len": 4, "deposit": 8, "withdraw": 8, "balance": 4}
	for w, n := range want {
		if taken[w] != n {
			t.Errorf("%s: %d texts are read; want %d", w, taken[w], n)
		}
	}
}

// TestOneWordOneType: each kind has one word, no other kind's, and one type, and words come back as their kinds.
func TestOneWordOneType(t *testing.T) {
	seen, types := map[string]int{}, map[int]int{}
	for kind := -100; kind <= 100; kind++ {
		w, e := operation.Word(kind)
		k, f := operation.Type(kind)
		if e != f {
			t.Errorf("kind %d: %v, %v", kind, e, f)
		}
		if e != api.OK {
			continue
		}
		if other, ok := seen[w]; ok {
			t.Errorf("%d and %d have one word, %q", kind, other, w)
		}
		seen[w] = kind
		types[k]++
		expectKind(t, w, kind, api.OK)
	}
	if len(seen) != 15 || len(types) != 5 || types[1] != 2 || types[2] != 4 || types[3] != 3 || types[4] != 3 || types[5] != 3 {
		t.Errorf("%d words, types %v", len(seen), types)
	}
}

// P1: what a call answers depends on its arguments alone.
func TestAgain(t *testing.T) {
	for _, s := range append(sample(), "sub 1", "add x -> ok", "deposit -1 -> 1", "add 1 -> 1") {
		op, at, e := operation.Read(words(s)...)
		for range 3 {
			expectRead(t, words(s), op, at, e)
		}
	}
}

func FuzzRead(f *testing.F) {
	for _, s := range append(sample(), "", "ins 5", "insert 5 -> 1 2", "deposit -1 -> 7", "put 1 -> 2") {
		f.Add(s)
	}
	f.Fuzz(func(t *testing.T, text string) {
		l := strings.Split(text, " ")
		op, at, e := read(l)
		expectRead(t, l, op, at, e)
		if e == api.OK {
			expectText(t, op, text, api.OK)
		}
	})
}

func FuzzText(f *testing.F) {
	f.Add(1, 5, 0, 0, 0)
	f.Add(7, 1, 10, 1, 0)
	f.Add(13, most+1, 0, 2, 2)
	f.Fuzz(func(t *testing.T, kind, a, b, returned, n int) {
		op := api.Op{Kind: kind, A: a, B: b, Ret: api.Ret{Kind: returned, N: n}}
		want, text := checked(op), ""
		if want == api.OK {
			text = told(op)
		}
		expectCheck(t, op, want)
		expectText(t, op, text, want)
	})
}
