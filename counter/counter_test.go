package counter_test

import (
	"math"
	"math/big"
	"slices"
	"testing"

	"armistice/api"
	"armistice/counter"
	"armistice/number"
	"armistice/state"
)

// The calls must keep the chapter's signatures.
var (
	_ func(api.State, int, int, int) (api.State, api.Ret, api.Errno) = counter.Apply
	_ func(int, []int) int                                           = counter.Total
	_ func(int, []int) int                                           = counter.Back
)

// The greatest number, the least, and the most that an account holds.
const (
	greatest = math.MaxInt
	least    = math.MinInt
	most     = 1 << 62
)

// The kinds by the document's numbers, so that the tests hang on no name.
const (
	add  = 1
	read = 2
)

func at(n int) api.State   { return api.State{Type: 1, N: n} }
func done() api.Ret        { return api.Ret{Kind: 0} }
func told(n int) api.Ret   { return api.Ret{Kind: 2, N: n} }
func text(n int) string    { return big.NewInt(int64(n)).String() }
func minus(n int) *big.Int { return new(big.Int).Neg(big.NewInt(int64(n))) }

// edges are numbers about which something changes.
func edges() []int {
	return []int{least, least + 1, least + 2, -most - 1, -most, -most + 1, -1 << 32, -7, -2, -1, 0, 1, 2, 3, 7, 1 << 31, 1 << 32, most - 1, most, most + 1, greatest - 2, greatest - 1, greatest}
}

// numbers are many, spread over all sizes, the same ones each time.
func numbers(count int) []int {
	l := make([]int, count)
	x := uint64(88172645463325252)
	for i := range l {
		x ^= x << 13
		x ^= x >> 7
		x ^= x << 17
		l[i] = int(x) >> (i % 64)
	}
	return l
}

// round is a sum, gone round by the chapter's words: less or more as many times 2^64 as it takes.
func round(sum *big.Int) int {
	turn := new(big.Int).Lsh(big.NewInt(1), 64)
	rest := new(big.Int).Mod(sum, turn)
	if !rest.IsInt64() {
		rest.Sub(rest, turn)
	}
	return int(rest.Int64())
}

// sum is a number and all of l together, gone round once, at the end.
func sum(from int, l ...int) int {
	all := big.NewInt(int64(from))
	for _, n := range l {
		all.Add(all, big.NewInt(int64(n)))
	}
	return round(all)
}

// less is a number without all of l, gone round once, at the end.
func less(to int, l ...int) int {
	all := big.NewInt(int64(to))
	for _, n := range l {
		all.Add(all, minus(n))
	}
	return round(all)
}

// applied is what Apply must answer, by the chapter's words in their order.
func applied(s api.State, kind, a, b int) (api.State, api.Ret, api.Errno) {
	switch {
	case s.Type != 1 || len(s.L) != 0:
		return api.State{}, api.Ret{}, 12
	case kind != add && kind != read:
		return api.State{}, api.Ret{}, 6
	case b != 0 || kind == read && a != 0:
		return api.State{}, api.Ret{}, 2
	case kind == read:
		return at(s.N), told(s.N), 0
	}
	return at(sum(s.N, a)), done(), 0
}

// like tells whether two states are the same, by the test's own look.
func like(a, b api.State) bool {
	return a.Type == b.Type && a.N == b.N && slices.Equal(a.L, b.L)
}

func expect(t *testing.T, s api.State, kind, a, b int, want api.State, ret api.Ret, err api.Errno) {
	t.Helper()
	if then, r, e := counter.Apply(s, kind, a, b); !like(then, want) || r != ret || e != err {
		t.Errorf("Apply(%v, %d, %d, %d): %v, %v, %v; want %v, %v, %v", s, kind, a, b, then, r, e, want, ret, err)
	}
}

func expectAdd(t *testing.T, n, a, want int) {
	t.Helper()
	expect(t, at(n), add, a, 0, at(want), done(), api.OK)
}

func expectRead(t *testing.T, n int) {
	t.Helper()
	expect(t, at(n), read, 0, 0, at(n), told(n), api.OK)
}

func refuse(t *testing.T, s api.State, kind, a, b int, err api.Errno) {
	t.Helper()
	expect(t, s, kind, a, b, api.State{}, api.Ret{}, err)
}

func expectTotal(t *testing.T, from, want int, l ...int) {
	t.Helper()
	if n := counter.Total(from, l); n != want {
		t.Errorf("Total(%d, %.20v): %d; want %d", from, l, n, want)
	}
}

func expectBack(t *testing.T, to, want int, l ...int) {
	t.Helper()
	if n := counter.Back(to, l); n != want {
		t.Errorf("Back(%d, %.20v): %d; want %d", to, l, n, want)
	}
}

// added is the counter behind an Add of each of l by Apply, the last one's state handed to the next.
func added(t *testing.T, from int, l ...int) int {
	t.Helper()
	s := at(from)
	for _, n := range l {
		then, _, e := counter.Apply(s, add, n, 0)
		if e != api.OK {
			t.Fatalf("Apply(%v, add %d): %v", s, n, e)
		}
		s = then
	}
	return s.N
}

// some are lists of Adds of all lengths up to many, most of which go round.
func some() [][]int {
	out := [][]int{nil, {}, {0}, {0, 0, 0}, {greatest, greatest}, {least, least}, {greatest, 1, 1}, {least, -1, -1}, {greatest, least}, {1, 2, 3}, {3, -1, -2}, {most, most, most, most}, edges()}
	for _, n := range edges() {
		out = append(out, []int{n})
		for _, m := range edges() {
			out = append(out, []int{n, m})
		}
	}
	many := numbers(200)
	for n := range 40 {
		out = append(out, many[n:3*n])
	}
	return append(out, many)
}

// TestExamples holds the chapter's table, and the document's that is about counters.
func TestExamples(t *testing.T) {
	expectAdd(t, 5, -7, -2)
	expectAdd(t, greatest, 1, least)
	expectRead(t, 5)
	refuse(t, at(5), read, 1, 0, api.ErrArg)
	refuse(t, at(5), add, 1, 1, api.ErrArg)
	refuse(t, at(5), 3, 1, 0, api.ErrWord)
	refuse(t, api.State{Type: 2}, read, 0, 0, api.ErrState)
	expectTotal(t, 1, 6, 2, 3)
	expectTotal(t, 0, 0)
	expectBack(t, 6, 1, 2, 3)
	expectBack(t, least, greatest, 1)
	if api.Counter != 1 || api.Add != add || api.Read != read || api.RetOK != 0 || api.RetNumber != 2 || api.ErrArg != 2 || api.ErrWord != 6 || api.ErrState != 12 {
		t.Error("the numbers are not the document's")
	}
}

// P6.1: Add and Read.

func TestAdd(t *testing.T) {
	for _, x := range []struct{ n, a, want int }{
		{0, 0, 0}, {0, 1, 1}, {0, -1, -1}, {0, greatest, greatest}, {0, least, least},
		{5, 0, 5}, {5, 2, 7}, {5, -5, 0}, {5, -7, -2}, {-3, 0, -3}, {-3, -4, -7}, {-3, 3, 0}, {-3, 10, 7},
		{greatest, 0, greatest}, {greatest, 1, least}, {greatest, 2, least + 1}, {greatest, -1, greatest - 1}, {greatest, greatest, -2}, {greatest, least, -1}, {greatest - 1, 1, greatest}, {greatest - 1, 2, least},
		{least, 0, least}, {least, -1, greatest}, {least, -2, greatest - 1}, {least, 1, least + 1}, {least, least, 0}, {least, greatest, -1}, {least + 1, -1, least}, {least + 1, -2, greatest},
		{most, most, least}, {-most, -most, least}, {-most, -most - 1, greatest}, {1 << 31, 1 << 31, 1 << 32}, {-1 << 31, -1, -1<<31 - 1},
	} {
		expectAdd(t, x.n, x.a, x.want)
	}
	for _, n := range append(edges(), numbers(100)...) {
		for _, a := range append(edges(), numbers(100)...) {
			expectAdd(t, n, a, sum(n, a))
			if want := number.Wrap(n, a); sum(n, a) != want {
				t.Errorf("number.Wrap(%d, %d): %d", n, a, want)
			}
		}
	}
}

func TestRead(t *testing.T) {
	for _, n := range append(edges(), numbers(2000)...) {
		expectRead(t, n)
	}
}

// P6.1: what is refused.

func TestArguments(t *testing.T) {
	for _, n := range edges() {
		for _, x := range edges() {
			for _, y := range edges() {
				if x != 0 || y != 0 {
					refuse(t, at(n), read, x, y, api.ErrArg)
				}
				if y != 0 {
					refuse(t, at(n), add, x, y, api.ErrArg)
				}
			}
		}
	}
}

// noKinds are all kinds of other types, and numbers that are no kind; some are a counter's, but for the bits above.
func noKinds() []int {
	l := []int{0, -1, -2, 16, 17, 255, 256, 257, 258, 1<<16 + 1, 1<<32 + 1, 1<<32 + 2, least, least + 1, least + 2, greatest, greatest - 1}
	for kind := 3; kind <= 15; kind++ {
		l = append(l, kind, -kind)
	}
	return l
}

// TestKinds: a kind that is none of these goes ahead of arguments that are wrong.
func TestKinds(t *testing.T) {
	for _, kind := range noKinds() {
		for _, n := range edges() {
			for _, x := range []int{0, 1, -1, least, greatest} {
				for _, y := range []int{0, 1, -1, least, greatest} {
					refuse(t, at(n), kind, x, y, api.ErrWord)
				}
			}
		}
	}
}

// noCounters are states of other types, in their form and not, of no type, and counters that are not in their form.
func noCounters() []api.State {
	var out []api.State
	for _, kind := range []int{0, 2, 3, 4, 5, 6, 7, -1, -2, 255, 256, 257, 1<<32 + 1, least, least + 1, greatest} {
		for _, n := range []int{0, 1, 5, -1, most, most + 1, least, greatest} {
			out = append(out, api.State{Type: kind, N: n})
		}
		out = append(out, api.State{Type: kind, L: []int{}}, api.State{Type: kind, L: []int{5}}, api.State{Type: kind, L: []int{1, 2}}, api.State{Type: kind, L: []int{2, 1, 0}})
	}
	for _, n := range edges() {
		out = append(out, api.State{Type: 1, N: n, L: []int{0}}, api.State{Type: 1, N: n, L: []int{n}}, api.State{Type: 1, N: n, L: []int{1, 2, 3}}, api.State{Type: 1, N: n, L: make([]int, 1000)})
	}
	return out
}

// TestStates: a state that is no counter goes ahead of a kind that is none, and that ahead of arguments that are wrong.
func TestStates(t *testing.T) {
	for _, s := range noCounters() {
		for _, kind := range append(noKinds(), add, read) {
			refuse(t, s, kind, 0, 0, api.ErrState)
			refuse(t, s, kind, 1, 0, api.ErrState)
			refuse(t, s, kind, 0, 1, api.ErrState)
			refuse(t, s, kind, least, greatest, api.ErrState)
		}
	}
}

// TestEverywhere holds Apply against the chapter's words at all of these together, so that it ends and answers everywhere, each time the same.
func TestEverywhere(t *testing.T) {
	states := noCounters()
	for _, n := range edges() {
		states = append(states, at(n), api.State{Type: 1, N: n, L: []int{}})
	}
	count := map[api.Errno]int{}
	for _, s := range states {
		for kind := -3; kind <= 18; kind++ {
			for _, x := range []int{0, 1, -1, 5, least, greatest} {
				for _, y := range []int{0, 1, -1, least, greatest} {
					then, ret, err := applied(s, kind, x, y)
					count[err]++
					expect(t, s, kind, x, y, then, ret, err)
					expect(t, s, kind, x, y, then, ret, err)
				}
			}
		}
	}
	if len(count) != 4 || count[api.OK] < 300 || count[api.ErrArg] < 300 || count[api.ErrWord] < 300 || count[api.ErrState] < 300 {
		t.Error("the test itself is wrong:", count)
	}
}

// TestForm: what is answered is a counter in its form, of which the next operation can be asked.
func TestForm(t *testing.T) {
	for _, n := range edges() {
		for _, s := range []api.State{at(n), {Type: 1, N: n, L: []int{}}, {Type: 1, N: n, L: make([]int, 0, 4)}} {
			for _, a := range edges() {
				then, _, _ := counter.Apply(s, add, a, 0)
				if e := state.Check(then); e != api.OK || then.Type != 1 {
					t.Errorf("Apply(%v, add %d): %v is not in its form: %v", s, a, then, e)
				}
				if got, e := state.Text(then); e != api.OK || got != "counter "+text(sum(n, a)) {
					t.Errorf("Apply(%v, add %d): its text is %q, %v", s, a, got, e)
				}
				expectRead(t, then.N)
			}
			same, _, _ := counter.Apply(s, read, 0, 0)
			if !state.Same(same, s) {
				t.Errorf("Apply(%v, read): %v", s, same)
			}
		}
	}
}

// P6.2: Total and Back.

func TestTotal(t *testing.T) {
	for _, n := range edges() {
		expectTotal(t, n, n)
		expectTotal(t, n, n, []int{}...)
		expectTotal(t, n, n, 0)
		expectTotal(t, n, n, 0, 0, 0)
	}
	expectTotal(t, 1, 3, 2)
	expectTotal(t, 1, -1, 2, -4)
	expectTotal(t, -5, 5, 1, 2, 3, 4)
	expectTotal(t, greatest, least, 1)
	expectTotal(t, greatest, greatest, 1, -1)
	expectTotal(t, least, greatest, -1)
	expectTotal(t, least, least, -1, 1)
	expectTotal(t, 0, 0, least, least)
	expectTotal(t, 0, -2, greatest, greatest)
	expectTotal(t, 7, 7, most, most, most, most)
	expectTotal(t, 7, 7, greatest, 1, greatest, 1)
	for _, from := range edges() {
		for _, l := range some() {
			expectTotal(t, from, sum(from, l...), l...)
		}
	}
}

// TestTotalIsRead: Total is what Read returns behind an Add of each, done one by one.
func TestTotalIsRead(t *testing.T) {
	for _, from := range edges() {
		for _, l := range some() {
			end := added(t, from, l...)
			_, ret, e := counter.Apply(at(end), read, 0, 0)
			if n := counter.Total(from, l); e != api.OK || ret != told(n) {
				t.Errorf("Total(%d, %v): %d; Read returned %v, %v", from, l, n, ret, e)
			}
		}
	}
}

func TestBack(t *testing.T) {
	for _, n := range edges() {
		expectBack(t, n, n)
		expectBack(t, n, n, []int{}...)
		expectBack(t, n, n, 0)
		expectBack(t, n, n, 0, 0, 0)
	}
	expectBack(t, 3, 1, 2)
	expectBack(t, -1, 1, 2, -4)
	expectBack(t, 5, -5, 1, 2, 3, 4)
	expectBack(t, greatest, least, -1)
	expectBack(t, least, greatest, 1)
	expectBack(t, 0, least, least)
	expectBack(t, least, 0, least)
	expectBack(t, -1, greatest, least)
	expectBack(t, greatest, -1, least)
	expectBack(t, 0, -greatest, greatest)
	expectBack(t, 0, 0, least, least)
	expectBack(t, 7, 7, most, most, most, most)
	for _, to := range edges() {
		for _, l := range some() {
			expectBack(t, to, less(to, l...), l...)
		}
	}
}

// TestThereAndBack: Back of what Total came to, and Total of what Back came to, at all edges.
func TestThereAndBack(t *testing.T) {
	for _, n := range append(edges(), numbers(20)...) {
		for _, l := range some() {
			expectBack(t, counter.Total(n, l), n, l...)
			expectTotal(t, counter.Back(n, l), n, l...)
		}
	}
}

// TestManyAdds: a list of very many, of which each one counts, the first and the last too.
func TestManyAdds(t *testing.T) {
	l := numbers(1 << 20)
	whole := sum(5, l...)
	expectTotal(t, 5, whole, l...)
	expectBack(t, whole, 5, l...)
	for _, i := range []int{0, 1, len(l) / 2, len(l) - 2, len(l) - 1} {
		kept := l[i]
		l[i] = sum(kept, 3)
		expectTotal(t, 5, sum(whole, 3), l...)
		expectBack(t, whole, 2, l...)
		l[i] = kept
	}
}

// P6.3: what follows.

// orders are all orders of l.
func orders(l []int) [][]int {
	if len(l) == 0 {
		return [][]int{nil}
	}
	var out [][]int
	for i, first := range l {
		for _, rest := range orders(slices.Delete(slices.Clone(l), i, i+1)) {
			out = append(out, append([]int{first}, rest...))
		}
	}
	return out
}

func TestTurnedAbout(t *testing.T) {
	for _, l := range [][]int{{1, 2}, {greatest, 1}, {least, -1}, {least, least, 1}, {greatest, greatest, least, 5}, {most, most, most, -7, 0}, {greatest, least, -most, 3, -1}} {
		for _, from := range edges() {
			want := added(t, from, l...)
			for _, turned := range orders(l) {
				if n := added(t, from, turned...); n != want {
					t.Errorf("from %d: Adds of %v come to %d, of %v to %d", from, l, want, turned, n)
				}
				expectTotal(t, from, want, turned...)
				expectBack(t, want, from, turned...)
			}
		}
	}
	for _, from := range edges() {
		l := numbers(300)
		want := counter.Total(from, l)
		slices.Reverse(l)
		expectTotal(t, from, want, l...)
		slices.Sort(l)
		expectTotal(t, from, want, l...)
		expectBack(t, want, from, l...)
	}
}

// TestPutTogether: some Adds, and all of them, are as one Add of what they come to.
func TestPutTogether(t *testing.T) {
	for _, from := range edges() {
		for _, l := range some() {
			want := added(t, from, l...)
			one := counter.Total(0, l)
			expectAdd(t, from, one, want)
			expectTotal(t, from, want, one)
			half := len(l) / 2
			expectTotal(t, from, want, counter.Total(0, l[:half]), counter.Total(0, l[half:]))
			expectTotal(t, counter.Total(from, l[:half]), want, l[half:]...)
			expectBack(t, counter.Back(want, l[half:]), from, l[:half]...)
		}
	}
}

// TestTakenOff: n and what makes 0 with it, wherever the two stand, change nothing; of the least number that is itself.
func TestTakenOff(t *testing.T) {
	for _, n := range append(edges(), numbers(200)...) {
		off := less(0, n)
		for _, from := range edges() {
			if end := added(t, from, n, off); end != from {
				t.Errorf("from %d: Adds of %d and %d come to %d", from, n, off, end)
			}
			expectTotal(t, from, from, n, off)
			expectTotal(t, from, from, off, n)
			expectBack(t, from, from, n, off)
			expectTotal(t, from, sum(from, 3, 4), 3, n, 4, off)
		}
	}
	if less(0, least) != least || less(0, 5) != -5 {
		t.Error("the test itself is wrong")
	}
}

// TestJustOne: from each counter each other one is reached by one Add, and by none that is unlike it.
func TestJustOne(t *testing.T) {
	for _, from := range edges() {
		for _, to := range edges() {
			one := less(to, from)
			expectAdd(t, from, one, to)
			expectBack(t, to, from, one)
			for _, other := range unlike(one) {
				if n := added(t, from, other); n == to {
					t.Errorf("from %d to %d: by Add %d, and by %d too", from, to, one, other)
				}
			}
			// Nor do two counters come to one by the same Add.
			if n := added(t, to, one); from != to && n == to {
				t.Errorf("Add %d comes to %d from %d and from itself", one, to, from)
			}
		}
	}
}

// unlike are numbers that are not n: each of them a bit away, or an edge.
func unlike(n int) []int {
	var out []int
	for i := range 64 {
		out = append(out, n^1<<i)
	}
	for _, m := range edges() {
		if m != n {
			out = append(out, m)
		}
	}
	return out
}

// What is handed in, and what is answered.

// TestHandedIn: lists stay as they were, their spare room too, and what stands there is not looked at.
func TestHandedIn(t *testing.T) {
	room := []int{1, 2, 3, 99, 98, 97}
	kept := slices.Clone(room)
	if n := counter.Total(4, room[:3]); n != 10 {
		t.Error("Total:", n)
	}
	if n := counter.Back(10, room[:3]); n != 4 {
		t.Error("Back:", n)
	}
	if n := counter.Total(4, room[:0]); n != 4 {
		t.Error("Total of none:", n)
	}
	if n := counter.Back(4, room[:0]); n != 4 {
		t.Error("Back of none:", n)
	}
	for _, s := range []api.State{{Type: 1, N: 5, L: room[:0]}, {Type: 1, N: 5, L: room[3:3]}} {
		expect(t, s, add, 2, 0, at(7), done(), api.OK)
		expect(t, s, read, 0, 0, at(5), told(5), api.OK)
		refuse(t, s, read, 1, 0, api.ErrArg)
		refuse(t, s, 3, 1, 0, api.ErrWord)
		if s.Type != 1 || s.N != 5 || len(s.L) != 0 {
			t.Error("the state is another one now:", s)
		}
	}
	refuse(t, api.State{Type: 1, N: 5, L: room[:3]}, add, 2, 0, api.ErrState)
	refuse(t, api.State{Type: 4, L: room[:3]}, read, 0, 0, api.ErrState)
	if !slices.Equal(room, kept) {
		t.Error("a list is another one now:", room)
	}
}

// TestNewMemory: what is answered has no room that was handed in, or that another answer has.
func TestNewMemory(t *testing.T) {
	room := []int{1, 2, 3}
	for _, kind := range []int{add, read} {
		s := api.State{Type: 1, N: 5, L: room[:0]}
		first, _, _ := counter.Apply(s, kind, 0, 0)
		second, _, _ := counter.Apply(s, kind, 0, 0)
		a := append(first.L, 70, 71, 72)
		b := append(second.L, 80, 81, 82)
		if !slices.Equal(room, []int{1, 2, 3}) {
			t.Fatalf("kind %d: the answer has the room that was handed in: %v", kind, room)
		}
		if !slices.Equal(a, []int{70, 71, 72}) || !slices.Equal(b, []int{80, 81, 82}) {
			t.Errorf("kind %d: two answers share their room: %v, %v", kind, a, b)
		}
	}
}
