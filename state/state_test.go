package state_test

import (
	"bytes"
	"encoding/binary"
	"math"
	"math/big"
	"slices"
	"strings"
	"testing"

	"armistice/api"
	"armistice/number"
	"armistice/state"
)

// The calls must keep the chapter's signatures.
var (
	_ func(api.State) api.Errno           = state.Check
	_ func(int) (api.State, api.Errno)    = state.Empty
	_ func(api.State, api.State) bool     = state.Same
	_ func(api.State) ([]byte, api.Errno) = state.Encode
	_ func([]byte) (api.State, api.Errno) = state.Decode
	_ func(api.State) (string, api.Errno) = state.Text
	_ func(string) (api.State, api.Fault) = state.Read
	_ func(int) (string, api.Errno)       = state.Word
)

// The most that an account holds, that a number is, and the least.
const (
	most     = 1 << 62
	greatest = math.MaxInt
	least    = math.MinInt
)

// typeWords are the types' words, the first one that of type 1.
func typeWords() []string { return []string{"counter", "set", "map", "queue", "escrow"} }

// noTypes are numbers of which none is a type's.
func noTypes() []int {
	return []int{0, 6, -1, 7, -2, -5, 15, 255, 256, 257, 258, -255, 1<<32 + 1, 1<<32 + 2, least, least + 1, least + 2, greatest}
}

// edges are numbers about which something changes.
func edges() []int {
	return []int{least, least + 1, -most, -2, -1, 0, 1, 2, 255, 256, most - 1, most, most + 1, greatest}
}

func counter(n int) api.State  { return api.State{Type: 1, N: n} }
func set(l ...int) api.State   { return api.State{Type: 2, L: l} }
func dict(l ...int) api.State  { return api.State{Type: 3, L: l} }
func queue(l ...int) api.State { return api.State{Type: 4, L: l} }
func account(n int) api.State  { return api.State{Type: 5, N: n} }
func form(at int) api.Fault    { return api.Fault{Err: api.ErrForm, At: at} }
func long(at int) api.Fault    { return api.Fault{Err: api.ErrLong, At: at} }
func noWord() api.Fault        { return api.Fault{Err: api.ErrWord} }
func put(n int) string         { return big.NewInt(int64(n)).String() }

// keys are the first, third, fifth and so on of l.
func keys(l []int) []int {
	var out []int
	for pair := range slices.Chunk(l, 2) {
		out = append(out, pair[0])
	}
	return out
}

// risen tells whether l is in order without two that are the same.
func risen(l []int) bool {
	sorted := slices.Compact(slices.Sorted(slices.Values(l)))
	return slices.Equal(sorted, l)
}

// checked is what Check must answer.
func checked(s api.State) api.Errno {
	ok := false
	switch s.Type {
	case 1:
		ok = len(s.L) == 0
	case 2:
		ok = s.N == 0 && risen(s.L)
	case 3:
		ok = s.N == 0 && len(s.L)&1 == 0 && risen(keys(s.L))
	case 4:
		ok = s.N == 0
	case 5:
		ok = len(s.L) == 0 && s.N >= 0 && s.N <= most
	default:
		return api.ErrType
	}
	if !ok {
		return api.ErrForm
	}
	return api.OK
}

// encoded are the bytes of a state, whether it is in its form or not.
func encoded(s api.State) []byte {
	b := []byte{byte(s.Type)}
	b = binary.BigEndian.AppendUint64(b, uint64(s.N))
	b = binary.BigEndian.AppendUint32(b, uint32(len(s.L)))
	for _, n := range s.L {
		b = binary.BigEndian.AppendUint64(b, uint64(n))
	}
	return b
}

// decoded is what Decode must answer.
func decoded(b []byte) (api.State, api.Errno) {
	var s api.State
	r := bytes.NewReader(b)
	var head struct {
		Type  uint8
		N     int64
		Count uint32
	}
	if binary.Read(r, binary.BigEndian, &head) != nil || uint64(r.Len()) != 8*uint64(head.Count) {
		return s, api.ErrForm
	}
	l := make([]int64, head.Count)
	if binary.Read(r, binary.BigEndian, &l) != nil {
		return s, api.ErrForm
	}
	s.Type, s.N = int(head.Type), int(head.N)
	for _, n := range l {
		s.L = append(s.L, int(n))
	}
	if checked(s) != api.OK {
		return api.State{}, api.ErrForm
	}
	return s, api.OK
}

// told is the text of a state that is in its form.
func told(s api.State) string {
	l := s.L
	if s.Type == 1 || s.Type == 5 {
		l = []int{s.N}
	}
	text := typeWords()[s.Type-1]
	for _, n := range l {
		text += " " + put(n)
	}
	return text
}

// read is what Read must answer, by the chapter's words.
func read(text string) (api.State, api.Fault) {
	parts := strings.Split(text, " ")
	kind := slices.Index(typeWords(), parts[0]) + 1
	if kind == 0 {
		return api.State{}, noWord()
	}
	var l []int
	at := len(parts[0]) + 1
	for _, part := range parts[1:] {
		n, f := number.Get(part)
		if f.Err != api.OK {
			return api.State{}, api.Fault{Err: f.Err, At: at + f.At}
		}
		l = append(l, n)
		at += len(part) + 1
	}
	s := api.State{Type: kind, L: l}
	if kind == 1 || kind == 5 {
		if len(l) != 1 {
			return api.State{}, form(0)
		}
		s = api.State{Type: kind, N: l[0]}
	}
	if checked(s) != api.OK {
		return api.State{}, form(0)
	}
	return s, api.Fault{}
}

// like tells whether two states are the same, by the test's own look.
func like(a, b api.State) bool {
	if a.Type != b.Type || a.N != b.N || len(a.L) != len(b.L) {
		return false
	}
	for i := range a.L {
		if a.L[i] != b.L[i] {
			return false
		}
	}
	return true
}

func expectCheck(t *testing.T, s api.State, want api.Errno) {
	t.Helper()
	if e := state.Check(s); e != want {
		t.Errorf("Check(%v): %v; want %v", s, e, want)
	}
}

func expectEncode(t *testing.T, s api.State, want []byte, err api.Errno) {
	t.Helper()
	if b, e := state.Encode(s); !bytes.Equal(b, want) || e != err {
		t.Errorf("Encode(%v): %v, %v; want %v, %v", s, b, e, want, err)
	}
}

func expectDecode(t *testing.T, b []byte, want api.State, err api.Errno) {
	t.Helper()
	if s, e := state.Decode(b); !like(s, want) || e != err {
		t.Errorf("Decode(%v): %v, %v; want %v, %v", b, s, e, want, err)
	}
}

func expectText(t *testing.T, s api.State, want string, err api.Errno) {
	t.Helper()
	if text, e := state.Text(s); text != want || e != err {
		t.Errorf("Text(%v): %q, %v; want %q, %v", s, text, e, want, err)
	}
}

func expectRead(t *testing.T, text string, want api.State, fault api.Fault) {
	t.Helper()
	if s, f := state.Read(text); !like(s, want) || f != fault {
		t.Errorf("Read(%.80q): %v, %v; want %v, %v", text, s, f, want, fault)
	}
}

// expectNone holds that a state has neither bytes nor a text, for that reason.
func expectNone(t *testing.T, s api.State, err api.Errno) {
	t.Helper()
	expectCheck(t, s, err)
	expectEncode(t, s, nil, err)
	expectText(t, s, "", err)
}

// lists are all lists of at most that many numbers out of some.
func lists(length int, of ...int) [][]int {
	out := [][]int{nil}
	for from := 0; from < len(out); from++ {
		if len(out[from]) == length {
			break
		}
		for _, n := range of {
			out = append(out, append(slices.Clone(out[from]), n))
		}
	}
	return out
}

// some are states of each type, and of none, in their form and not.
func some() []api.State {
	var out []api.State
	for kind := -1; kind <= 7; kind++ {
		for _, n := range edges() {
			for _, l := range [][]int{nil, {}, {0}, {1, 2}, {2, 1}} {
				out = append(out, api.State{Type: kind, N: n, L: l})
			}
		}
		for _, l := range lists(4, least, -1, 0, 1, greatest) {
			out = append(out, api.State{Type: kind, L: l})
		}
	}
	return out
}

// formed are states in their form.
func formed() []api.State {
	var out []api.State
	for _, s := range some() {
		if checked(s) == api.OK {
			out = append(out, s)
		}
	}
	return append(out, set(1, 2, 3, 4, 5, 6, 7), dict(1, 0, 2, 0, 3, 0, 4, 0), queue(5, 4, 3, 2, 1, 0, -1), set(edges()...), queue(edges()...))
}

// sample is one state of each shape.
func sample() []api.State {
	return []api.State{counter(0), counter(-1), counter(least), counter(greatest), set(), set(3), set(-5, 3), set(least, -1, 0, 256, greatest), dict(), dict(1, 10), dict(1, 10, 2, 20), dict(least, greatest, greatest, least), queue(), queue(7), queue(3, 3, -3), account(0), account(1), account(most)}
}

// TestExamples holds the chapter's table.
func TestExamples(t *testing.T) {
	expectEncode(t, counter(-1), []byte{1, 255, 255, 255, 255, 255, 255, 255, 255, 0, 0, 0, 0}, api.OK)

	expectText(t, set(-5, 3), "set -5 3", api.OK)
	expectText(t, queue(), "queue", api.OK)
	expectRead(t, "map 1 10 2 20", dict(1, 10, 2, 20), api.Fault{})
	expectRead(t, "set 3 3", api.State{}, form(0))
	expectRead(t, "escrow -1", api.State{}, form(0))
	expectRead(t, "set x", api.State{}, form(4))
	expectRead(t, "sets 1", api.State{}, noWord())
	expectRead(t, "counter", api.State{}, form(0))

	expectCheck(t, dict(1, 2, 1, 3), api.ErrForm)
	expectCheck(t, api.State{Type: 6}, api.ErrType)
	if s, e := state.Empty(2); !like(s, set()) || e != api.OK {
		t.Errorf("Empty(2): %v, %v", s, e)
	}
	expectDecode(t, []byte{1, 2, 3}, api.State{}, api.ErrForm)
	if state.Same(set(1), queue(1)) {
		t.Error("a set and a queue are the same")
	}
}

// P5.1: Word and Empty.

func TestTypes(t *testing.T) {
	for i, word := range typeWords() {
		if w, e := state.Word(i + 1); w != word || e != api.OK {
			t.Errorf("Word(%d): %q, %v", i+1, w, e)
		}
		s, e := state.Empty(i + 1)
		if !like(s, api.State{Type: i + 1}) || e != api.OK {
			t.Errorf("Empty(%d): %v, %v", i+1, s, e)
		}
		expectCheck(t, s, api.OK)
	}
	if api.Counter != 1 || api.Set != 2 || api.Map != 3 || api.Queue != 4 || api.Escrow != 5 || api.Cap != most {
		t.Error("the types' numbers, or Cap, are not the document's")
	}
}

func TestNoTypes(t *testing.T) {
	for _, kind := range noTypes() {
		if w, e := state.Word(kind); w != "" || e != api.ErrType {
			t.Errorf("Word(%d): %q, %v", kind, w, e)
		}
		if s, e := state.Empty(kind); !like(s, api.State{}) || e != api.ErrType {
			t.Errorf("Empty(%d): %v, %v", kind, s, e)
		}
		// The type goes ahead of the form.
		for _, s := range []api.State{{Type: kind}, {Type: kind, N: 1}, {Type: kind, N: -1, L: []int{2, 1, 0}}, {Type: kind, L: []int{1}}} {
			expectNone(t, s, api.ErrType)
		}
	}
}

// P5.1: Check.

func TestCheckNumbers(t *testing.T) {
	for _, n := range edges() {
		expectCheck(t, counter(n), api.OK)
		for _, kind := range []int{2, 3, 4} {
			want := api.ErrForm
			if n == 0 {
				want = api.OK
			}
			expectCheck(t, api.State{Type: kind, N: n}, want)
			expectCheck(t, api.State{Type: kind, N: n, L: []int{}}, want)
			expectCheck(t, api.State{Type: kind, N: n, L: []int{1, 2}}, want)
		}
	}
	for _, n := range []int{0, 1, 2, most - 1, most} {
		expectCheck(t, account(n), api.OK)
	}
	for _, n := range []int{-1, -2, -most, least, least + 1, most + 1, most + 2, greatest} {
		expectNone(t, account(n), api.ErrForm)
	}
}

func TestCheckLists(t *testing.T) {
	for _, x := range []struct {
		l                []int
		set, dict, queue bool
	}{
		{nil, true, true, true}, {[]int{}, true, true, true},
		{[]int{0}, true, false, true}, {[]int{least}, true, false, true}, {[]int{greatest}, true, false, true},
		{[]int{1, 2}, true, true, true}, {[]int{2, 1}, false, true, true}, {[]int{1, 1}, false, true, true}, {[]int{-1, -2}, false, true, true}, {[]int{-2, -1}, true, true, true},
		// What is far apart goes round, if it is taken off.
		{[]int{least, greatest}, true, true, true}, {[]int{greatest, least}, false, true, true}, {[]int{least, 0, greatest, 0}, false, true, true}, {[]int{greatest, 0, least, 0}, false, false, true}, {[]int{least, 0, greatest}, true, false, true},
		{[]int{1, 2, 3}, true, false, true}, {[]int{1, 2, 2}, false, false, true}, {[]int{1, 1, 2}, false, false, true}, {[]int{1, 3, 2}, false, false, true}, {[]int{2, 1, 3}, false, false, true}, {[]int{3, 2, 1}, false, false, true},
		{[]int{1, 2, 3, 4}, true, true, true}, {[]int{1, 9, 2, 0}, false, true, true}, {[]int{1, 2, 1, 3}, false, false, true}, {[]int{2, 0, 1, 9}, false, false, true}, {[]int{1, 7, 2, 7}, false, true, true},
		{[]int{1, 0, 2, 0, 3, 0}, false, true, true}, {[]int{1, 0, 2, 0, 2, 0}, false, false, true}, {[]int{1, 0, 3, 0, 2, 0}, false, false, true}, {[]int{1, 0, 2, 0, 3}, false, false, true},
	} {
		for kind, ok := range map[int]bool{2: x.set, 3: x.dict, 4: x.queue, 1: len(x.l) == 0, 5: len(x.l) == 0} {
			s := api.State{Type: kind, L: x.l}
			if ok {
				expectCheck(t, s, api.OK)
			} else {
				expectNone(t, s, api.ErrForm)
			}
		}
	}
}

// TestCheckEverywhere holds Check, Encode and Text against the chapter's words at many states, most of them not in their form.
func TestCheckEverywhere(t *testing.T) {
	count := map[api.Errno]int{}
	for _, s := range some() {
		want := checked(s)
		count[want]++
		if want != api.OK {
			expectNone(t, s, want)
			continue
		}
		expectCheck(t, s, api.OK)
		expectEncode(t, s, encoded(s), api.OK)
		expectText(t, s, told(s), api.OK)
	}
	if count[api.OK] < 500 || count[api.ErrForm] < 500 || count[api.ErrType] < 500 {
		t.Error("the test itself is wrong:", count)
	}
}

// TestCheckLong: what is wrong at the very end of a long list is seen.
func TestCheckLong(t *testing.T) {
	const count = 1 << 18
	l := make([]int, count)
	for i := range l {
		l[i] = i - count/2
	}
	for kind := 2; kind <= 4; kind++ {
		expectCheck(t, api.State{Type: kind, L: l}, api.OK)
	}
	l[count-1] = l[count-2]
	if e := state.Check(set(l...)); e != api.ErrForm {
		t.Error("a long set:", e)
	}
	l[count-2] = l[count-4]
	if e := state.Check(dict(l...)); e != api.ErrForm {
		t.Error("a long map:", e)
	}
	if e := state.Check(dict(l[:count-1]...)); e != api.ErrForm {
		t.Error("a long map that is odd:", e)
	}
}

// P5.1: Same.

func TestSame(t *testing.T) {
	all := []api.State{{}, {N: 1}, {L: []int{0}}, {Type: 6}, {Type: -1, N: 3, L: []int{2, 1}}, {Type: -1, N: 3, L: []int{1, 2}}, {Type: 1, L: []int{1}}, {Type: 2, N: 1}, {Type: 2, N: 1, L: []int{1}}, {Type: least, N: least, L: []int{least}}, {Type: greatest, N: greatest, L: []int{greatest}}, queue(1, 2, 3), queue(1, 2, 4), queue(1, 2), queue(0, 1, 2), queue(0, 0), queue(0), set(0), dict(0, 0)}
	all = append(all, sample()...)
	for _, a := range all {
		for _, b := range all {
			b.L = slices.Clone(b.L)
			if got := state.Same(a, b); got != like(a, b) {
				t.Errorf("Same(%v, %v): %v", a, b, got)
			}
		}
		if len(a.L) == 0 {
			with, without := a, a
			with.L, without.L = []int{}, nil
			if !state.Same(with, without) || !state.Same(without, with) {
				t.Errorf("%v: nil and empty are not the same", a)
			}
		}
	}
}

// P5.2: Encode.

func TestEncode(t *testing.T) {
	for _, x := range []struct {
		s    api.State
		want []byte
	}{
		{counter(0), make12(1)},
		{counter(258), []byte{1, 0, 0, 0, 0, 0, 0, 1, 2, 0, 0, 0, 0}},
		{counter(0x0102030405060708), []byte{1, 1, 2, 3, 4, 5, 6, 7, 8, 0, 0, 0, 0}},
		{counter(least), []byte{1, 128, 0, 0, 0, 0, 0, 0, 0, 0, 0, 0, 0}},
		{counter(greatest), []byte{1, 127, 255, 255, 255, 255, 255, 255, 255, 0, 0, 0, 0}},
		{set(), make12(2)}, {dict(), make12(3)}, {queue(), make12(4)}, {account(0), make12(5)},
		{account(most), []byte{5, 64, 0, 0, 0, 0, 0, 0, 0, 0, 0, 0, 0}},
		{set(-2, 1), []byte{2, 0, 0, 0, 0, 0, 0, 0, 0, 0, 0, 0, 2, 255, 255, 255, 255, 255, 255, 255, 254, 0, 0, 0, 0, 0, 0, 0, 1}},
		{dict(1, -1), []byte{3, 0, 0, 0, 0, 0, 0, 0, 0, 0, 0, 0, 2, 0, 0, 0, 0, 0, 0, 0, 1, 255, 255, 255, 255, 255, 255, 255, 255}},
		{queue(7), []byte{4, 0, 0, 0, 0, 0, 0, 0, 0, 0, 0, 0, 1, 0, 0, 0, 0, 0, 0, 0, 7}},
	} {
		expectEncode(t, x.s, x.want, api.OK)
		expectDecode(t, x.want, x.s, api.OK)
	}
}

// make12 is a byte and twelve noughts.
func make12(first byte) []byte { return append([]byte{first}, make([]byte, 12)...) }

// TestEncodeCounts: of counts that take more than one byte, all are told and taken.
func TestEncodeCounts(t *testing.T) {
	for _, count := range []int{255, 256, 257, 65535, 65536, 65537, 1 << 18} {
		l := make([]int, count)
		for i := range l {
			l[i] = i * 3
		}
		b, e := state.Encode(queue(l...))
		if e != api.OK || !bytes.Equal(b, encoded(queue(l...))) {
			t.Fatalf("Encode of %d numbers: %d bytes, %v", count, len(b), e)
		}
		if s, e := state.Decode(b); e != api.OK || !like(s, queue(l...)) {
			t.Fatalf("Decode of %d numbers: %v", count, e)
		}
		if _, e := state.Decode(b[:len(b)-8]); e != api.ErrForm {
			t.Fatalf("Decode of one number fewer than %d: %v", count, e)
		}
	}
}

// P5.2: Decode.

// TestDecodeCut: a byte too few and one too many at each place, whatever the room behind holds.
func TestDecodeCut(t *testing.T) {
	expectDecode(t, nil, api.State{}, api.ErrForm)
	expectDecode(t, []byte{}, api.State{}, api.ErrForm)
	for _, s := range sample() {
		whole := encoded(s)
		for n := range whole {
			expectDecode(t, whole[:n], api.State{}, api.ErrForm)
			expectDecode(t, whole[:n:n], api.State{}, api.ErrForm)
			expectDecode(t, whole[n+1:], api.State{}, api.ErrForm)
			expectDecode(t, slices.Delete(slices.Clone(whole), n, n+1), api.State{}, api.ErrForm)
		}
		for n := 0; n <= len(whole); n++ {
			for _, x := range []byte{0, 1, 2, 255} {
				expectDecode(t, slices.Insert(slices.Clone(whole), n, x), api.State{}, api.ErrForm)
			}
		}
		for n := 1; n <= 16; n++ {
			expectDecode(t, append(slices.Clone(whole), make([]byte, n)...), api.State{}, api.ErrForm)
		}
		expectDecode(t, append(slices.Clone(whole), whole...), api.State{}, api.ErrForm)
	}
}

// TestDecodeTypes: each byte that a type's may be.
func TestDecodeTypes(t *testing.T) {
	for kind := range 256 {
		for _, s := range []api.State{{}, {N: 1}, {L: []int{1, 2}}, {L: []int{2, 1}}} {
			s.Type = kind
			if checked(s) == api.OK {
				expectDecode(t, encoded(s), s, api.OK)
			} else {
				expectDecode(t, encoded(s), api.State{}, api.ErrForm)
			}
		}
	}
}

// TestDecodeCounts: a count of numbers that is not what follows; some of them are the right ones, but for what does not fit in so many bits.
func TestDecodeCounts(t *testing.T) {
	for _, s := range []api.State{counter(1), set(), set(1), queue(1, 2), dict(1, 2, 3, 4), account(1)} {
		whole := encoded(s)
		own := uint32(len(s.L))
		for _, count := range []uint32{0, 1, 2, 3, 4, 5, own ^ 1<<8, own ^ 1<<16, own ^ 1<<24, own ^ 1<<28, own ^ 1<<29, own ^ 1<<30, own ^ 1<<31, math.MaxUint32, math.MaxInt32, -own, own - 1, own + 1} {
			b := slices.Clone(whole)
			binary.BigEndian.PutUint32(b[9:], count)
			if count == own {
				expectDecode(t, b, s, api.OK)
			} else {
				expectDecode(t, b, api.State{}, api.ErrForm)
			}
		}
	}
}

// TestDecodeForm: bytes of states that are not in their form are those of none; others come back.
func TestDecodeForm(t *testing.T) {
	for _, s := range some() {
		if s.Type < 0 {
			continue
		}
		if checked(s) == api.OK {
			expectDecode(t, encoded(s), s, api.OK)
		} else {
			expectDecode(t, encoded(s), api.State{}, api.ErrForm)
		}
	}
}

// TestDecodeEverywhere: each byte changed to each other one; what is taken has just those bytes.
func TestDecodeEverywhere(t *testing.T) {
	taken, refused := 0, 0
	for _, s := range sample() {
		b := encoded(s)
		for i := range b {
			kept := b[i]
			for x := range 256 {
				b[i] = byte(x)
				want, err := decoded(b)
				expectDecode(t, b, want, err)
				if err != api.OK {
					refused++
					continue
				}
				taken++
				expectEncode(t, want, b, api.OK)
			}
			b[i] = kept
		}
	}
	if taken < 10000 || refused < 10000 {
		t.Error("the test itself is wrong:", taken, refused)
	}
}

// P5.3: Text.

func TestText(t *testing.T) {
	for _, x := range []struct {
		s    api.State
		want string
	}{
		{counter(0), "counter 0"}, {counter(-7), "counter -7"}, {counter(least), "counter -9223372036854775808"}, {counter(greatest), "counter 9223372036854775807"},
		{set(), "set"}, {set(0), "set 0"}, {set(-5, 3), "set -5 3"}, {set(-12, -3, 0, 44), "set -12 -3 0 44"},
		{dict(), "map"}, {dict(1, 10), "map 1 10"}, {dict(-2, 5, 0, 5, 7, -5), "map -2 5 0 5 7 -5"},
		{queue(), "queue"}, {queue(0), "queue 0"}, {queue(3, 3, -3, 1), "queue 3 3 -3 1"},
		{account(0), "escrow 0"}, {account(12), "escrow 12"}, {account(most), "escrow 4611686018427387904"},
		{api.State{Type: 2, L: []int{}}, "set"}, {api.State{Type: 1, N: 5, L: []int{}}, "counter 5"},
	} {
		expectText(t, x.s, x.want, api.OK)
		expectRead(t, x.want, x.s, api.Fault{})
	}
}

// P5.3: Read.

// TestReadWords: texts that are a byte, a letter's size or a piece away from a type's word.
func TestReadWords(t *testing.T) {
	nearly := []string{"", "x", "0", "-1", "number", "account", "mapping", "fifo", "sets", "maps", "object", "add", "none", "ok", "->", "\x00", "\xff", "\n", "\t", "sеt", strings.Repeat("set", 1<<20)}
	for _, word := range typeWords() {
		nearly = append(nearly, strings.ToUpper(word), strings.ToUpper(word[:1])+word[1:], word+word, word+"\t1", word+"\n", "\n"+word, word+"1", word+"-1", word+",")
		for i := range len(word) {
			nearly = append(nearly, word[:i], word[i+1:], word[:i]+word[i+1:])
			for b := range 256 {
				c := string([]byte{byte(b)})
				if c != " " {
					nearly = append(nearly, word[:i]+c+word[i:], word+c)
				}
				if c != " " && c != word[i:i+1] {
					nearly = append(nearly, word[:i]+c+word[i+1:])
				}
			}
		}
	}
	for _, word := range nearly {
		if slices.Contains(typeWords(), word) {
			t.Fatalf("the test itself is wrong: %q", word)
		}
		// The word goes ahead of all that stands behind it.
		for _, behind := range []string{"", " ", " 1", " 1 2", " x", "  ", " 99999999999999999999999"} {
			expectRead(t, word+behind, api.State{}, noWord())
		}
	}
}

// TestReadSpaces: a space too many at the beginning, between two parts and at the end.
func TestReadSpaces(t *testing.T) {
	for _, s := range sample() {
		text := told(s)
		expectRead(t, " "+text, api.State{}, noWord())
		expectRead(t, "  "+text, api.State{}, noWord())
		for i := range len(text) {
			if text[i] == ' ' {
				expectRead(t, text[:i]+" "+text[i:], api.State{}, form(i+1))
				expectRead(t, text[:i]+"  "+text[i:], api.State{}, form(i+1))
			}
		}
		expectRead(t, text+" ", api.State{}, form(len(text)+1))
		expectRead(t, text+"  ", api.State{}, form(len(text)+1))
		expectRead(t, text+" x", api.State{}, form(len(text)+1))
		for _, other := range []string{"\t", "\n", "\r", "\v", "\f", "\x00", "\u00a0", "\xa0"} {
			if i := strings.IndexByte(text, ' '); i >= 0 {
				expectRead(t, text+other, api.State{}, placed(text, other))
				expectRead(t, strings.Replace(text, " ", other, 1), api.State{}, noWord())
			} else {
				expectRead(t, text+other, api.State{}, noWord())
			}
		}
	}
	expectRead(t, " ", api.State{}, noWord())
	expectRead(t, strings.Repeat(" ", 1<<16), api.State{}, noWord())
}

// placed is the fault of a byte that does not belong behind the last part of a text: a part beyond 20 bytes is too long first.
func placed(text, other string) api.Fault {
	last := strings.LastIndexByte(text, ' ') + 1
	if len(text)+len(other)-last > 20 {
		return long(last + 20)
	}
	return form(len(text))
}

// TestReadParts: a part that is no number's text, at each place, with each error that number tells.
func TestReadParts(t *testing.T) {
	for _, x := range []struct {
		part string
		at   int
		err  api.Errno
	}{
		{"", 0, api.ErrForm}, {"x", 0, api.ErrForm}, {"+1", 0, api.ErrForm}, {"-", 1, api.ErrForm}, {"-0", 1, api.ErrForm}, {"00", 1, api.ErrForm}, {"007", 1, api.ErrForm}, {"12x", 2, api.ErrForm}, {"-12x", 3, api.ErrForm}, {"1,2", 1, api.ErrForm}, {"set", 0, api.ErrForm}, {"1\t2", 1, api.ErrForm}, {"1\n", 1, api.ErrForm}, {"\xff", 0, api.ErrForm}, {"999999999999999999x", 18, api.ErrForm}, {"9999999999999999999x", 19, api.ErrForm},
		{"9223372036854775808", 0, api.ErrRange}, {"-9223372036854775809", 0, api.ErrRange}, {"18446744073709551616", 0, api.ErrRange}, {"99999999999999999999", 0, api.ErrRange},
		{"100000000000000000000", 20, api.ErrLong}, {"xxxxxxxxxxxxxxxxxxxxx", 20, api.ErrLong}, {"000000000000000000001", 20, api.ErrLong}, {strings.Repeat("1", 1<<16), 20, api.ErrLong},
	} {
		for _, word := range typeWords() {
			for _, ahead := range []string{"", " 1", " 1 2", " 1 2 3", " 3 2 1", " -9223372036854775808 9223372036854775807"} {
				begins := word + ahead + " "
				want := api.Fault{Err: x.err, At: len(begins) + x.at}
				// The first part that is wrong is told, and ahead of what they make all together.
				for _, behind := range []string{"", " ", " 1", " 0", " y", " 99999999999999999999", " 111111111111111111111"} {
					expectRead(t, begins+x.part+behind, api.State{}, want)
				}
			}
		}
	}
}

// TestReadForm: parts that are numbers, but make no state.
func TestReadForm(t *testing.T) {
	for _, text := range []string{
		"counter", "escrow", "counter 1 2", "escrow 1 2", "counter 0 0", "escrow 0 0", "counter 1 2 3", "escrow 1 2 3",
		"escrow -1", "escrow 4611686018427387905", "escrow 9223372036854775807", "escrow -9223372036854775808",
		"set 3 3", "set 2 1", "set 1 2 2", "set 1 3 2", "set 0 -1", "set 9223372036854775807 -9223372036854775808", "set 1 2 3 4 5 6 7 8 8",
		"map 1", "map 1 2 3", "map 1 2 1 3", "map 2 0 1 0", "map 1 0 2 0 2 0", "map 1 0 2 0 3", "map 9223372036854775807 0 -9223372036854775808 0",
	} {
		expectRead(t, text, api.State{}, form(0))
	}
}

// TestReadEverywhere holds Read against the chapter's words at all short lists of parts.
func TestReadEverywhere(t *testing.T) {
	parts := []string{"0", "1", "-1", "2", "4611686018427387905", "-9223372036854775808", "", "x", "01", "99999999999999999999", "111111111111111111111"}
	taken := 0
	var extend func(text string, more int)
	extend = func(text string, more int) {
		s, f := read(text)
		expectRead(t, text, s, f)
		if f.Err == api.OK {
			taken++
			expectText(t, s, text, api.OK)
		}
		if more == 0 {
			return
		}
		for _, p := range parts {
			extend(text+" "+p, more-1)
		}
	}
	for _, word := range append(typeWords(), "", "sets") {
		extend(word, 4)
	}
	if taken < 1000 {
		t.Error("the test itself is wrong:", taken)
	}
}

// TestReadLong: a text of very many parts.
func TestReadLong(t *testing.T) {
	const count = 1 << 18
	var b strings.Builder
	b.WriteString("set")
	l := make([]int, count)
	for i := range l {
		l[i] = i*7 - 1000
		b.WriteString(" " + put(l[i]))
	}
	text := b.String()
	if s, f := state.Read(text); f != (api.Fault{}) || !like(s, set(l...)) {
		t.Error("Read:", f)
	}
	if told, e := state.Text(set(l...)); e != api.OK || told != text {
		t.Error("Text:", e)
	}
	if s, f := state.Read(text + " y"); f != form(len(text)+1) || !like(s, api.State{}) {
		t.Error("Read with one wrong at the end:", f)
	}
	if s, f := state.Read(text + " 0"); f != form(0) || !like(s, api.State{}) {
		t.Error("Read with one that does not rise at the end:", f)
	}
}

// P5.4: what follows.

// TestSameBytesSameTexts: two states are the same just if their bytes are, and just if their texts are.
func TestSameBytesSameTexts(t *testing.T) {
	all := append(sample(), formed()...)
	byBytes, byTexts := make([]string, len(all)), make([]string, len(all))
	for i, s := range all {
		b, e := state.Encode(s)
		text, f := state.Text(s)
		if e != api.OK || f != api.OK {
			t.Fatalf("%v: %v, %v", s, e, f)
		}
		byBytes[i], byTexts[i] = string(b), text
	}
	same := 0
	for i, a := range all {
		for j, b := range all {
			want := state.Same(a, b)
			if want && i != j {
				same++
			}
			if want != like(a, b) || (byBytes[i] == byBytes[j]) != want || (byTexts[i] == byTexts[j]) != want {
				t.Fatalf("%v and %v: same %v, bytes %v, texts %q and %q", a, b, want, byBytes[i] == byBytes[j], byTexts[i], byTexts[j])
			}
		}
	}
	if len(all) < 500 || same < 10 {
		t.Error("the test itself is wrong:", len(all), same)
	}
}

// TestBack: what is encoded is decoded as it was, and what is told as text is read as it was.
func TestBack(t *testing.T) {
	for _, s := range append(sample(), formed()...) {
		b, e := state.Encode(s)
		if e != api.OK {
			t.Fatalf("Encode(%v): %v", s, e)
		}
		expectDecode(t, b, s, api.OK)
		text, e := state.Text(s)
		if e != api.OK {
			t.Fatalf("Text(%v): %v", s, e)
		}
		expectRead(t, text, s, api.Fault{})
	}
}

// TestForth: what is decoded is encoded as it was, and what is read is told as it was.
func TestForth(t *testing.T) {
	for _, s := range formed() {
		b, text := encoded(s), told(s)
		d, e := state.Decode(b)
		if e != api.OK {
			t.Fatalf("Decode(%v): %v", b, e)
		}
		expectCheck(t, d, api.OK)
		expectEncode(t, d, b, api.OK)
		r, f := state.Read(text)
		if f != (api.Fault{}) {
			t.Fatalf("Read(%q): %v", text, f)
		}
		expectCheck(t, r, api.OK)
		expectText(t, r, text, api.OK)
	}
}

// Rule 4: what is handed in stays as it was, and an answer is new memory.

// TestStatesStay: no call changes a state, or what stands in the room behind its numbers.
func TestStatesStay(t *testing.T) {
	for kind := -1; kind <= 6; kind++ {
		for n := range 5 {
			room := []int{4, 3, 9, -2, 7, 5}
			slices.Sort(room[:n])
			kept := slices.Clone(room)
			s := api.State{Type: kind, L: room[:n]}
			state.Check(s)
			state.Same(s, s)
			state.Text(s)
			if b, e := state.Encode(s); e == api.OK {
				clear(b[:cap(b)])
			}
			if !slices.Equal(room, kept) || s.Type != kind || s.N != 0 {
				t.Fatalf("type %d: %v has become %v", kind, kept, room)
			}
			if want := checked(s); want == api.OK {
				expectEncode(t, s, encoded(s), api.OK)
				expectText(t, s, told(s), api.OK)
			} else {
				expectNone(t, s, want)
			}
		}
	}
}

// TestBytesStay: Decode neither changes nor reads anew what it is handed, nor the room behind it.
func TestBytesStay(t *testing.T) {
	for _, s := range sample() {
		room := append(encoded(s), 1, 2, 3, 4, 5, 6, 7, 8)
		whole, kept := room[:len(room)-8], slices.Clone(room)
		d, e := state.Decode(whole)
		if e != api.OK || !like(d, s) || !bytes.Equal(room, kept) {
			t.Fatalf("Decode(%v): %v, %v", whole, d, e)
		}
		clear(room)
		if !like(d, s) {
			t.Fatalf("%v hangs on the bytes that were handed in", s)
		}
	}
}

// TestAnswersAreNew: what is done to an answer, and to the room behind it, changes no other one.
func TestAnswersAreNew(t *testing.T) {
	for _, s := range sample() {
		b, text := encoded(s), told(s)
		for range 2 {
			one, _ := state.Encode(s)
			two, _ := state.Encode(s)
			clear(one[:cap(one)])
			if !bytes.Equal(two, b) {
				t.Fatalf("Encode(%v) answers one memory twice", s)
			}
			first, _ := state.Decode(b)
			second, _ := state.Decode(b)
			third, _ := state.Read(text)
			fourth, _ := state.Read(text)
			fill(first.L)
			fill(third.L)
			if !like(second, s) || !like(fourth, s) {
				t.Fatalf("%v: Decode or Read answers one memory twice", s)
			}
			empty, _ := state.Empty(s.Type)
			fill(empty.L)
			if again, e := state.Empty(s.Type); e != api.OK || !like(again, api.State{Type: s.Type}) {
				t.Fatalf("Empty(%d) answers one memory twice", s.Type)
			}
		}
	}
}

// fill writes into all the room of l.
func fill(l []int) {
	l = l[:cap(l)]
	for i := range l {
		l[i] = 77
	}
}

// P1: what a call answers depends on its arguments alone.
func TestAgain(t *testing.T) {
	texts := []string{"", "sets 1", "set x", "set 3 3", "counter", "escrow -1", "map 1", "queue "}
	for _, s := range sample() {
		texts = append(texts, told(s))
	}
	for range 3 {
		for _, text := range texts {
			s, f := read(text)
			expectRead(t, text, s, f)
		}
	}
}

func FuzzRead(f *testing.F) {
	for _, s := range sample() {
		f.Add(told(s))
	}
	for _, text := range []string{"", " ", "set  1", "sets 1", "set x", "set 3 3", "counter", "queue ", "map 1 2 3", "escrow 99999999999999999999 x", "queue 111111111111111111111"} {
		f.Add(text)
	}
	f.Fuzz(func(t *testing.T, text string) {
		s, fault := read(text)
		expectRead(t, text, s, fault)
		if fault.Err == api.OK {
			expectText(t, s, text, api.OK)
		}
	})
}

func FuzzDecode(f *testing.F) {
	for _, s := range sample() {
		f.Add(encoded(s))
	}
	f.Add([]byte{})
	f.Add([]byte{1, 2, 3})
	f.Fuzz(func(t *testing.T, b []byte) {
		s, e := decoded(b)
		expectDecode(t, b, s, e)
		if e == api.OK {
			expectEncode(t, s, b, api.OK)
		}
	})
}

func FuzzCheck(f *testing.F) {
	f.Add(1, 5, 0, 0, 0, 0)
	f.Add(3, 0, 1, 2, 3, 4)
	f.Add(2, 0, least, greatest, 0, 0)
	f.Fuzz(func(t *testing.T, kind, n, a, b, c, d int) {
		l := []int{a, b, c, d}
		for count := range 5 {
			s := api.State{Type: kind, N: n, L: l[:count]}
			if want := checked(s); want != api.OK {
				expectNone(t, s, want)
				continue
			}
			expectEncode(t, s, encoded(s), api.OK)
			expectText(t, s, told(s), api.OK)
		}
	})
}
