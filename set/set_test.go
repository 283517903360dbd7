package set_test

import (
	"math"
	"slices"
	"testing"

	"armistice/api"
	"armistice/set"
	"armistice/state"
)

// The calls must keep the chapter's signatures.
var (
	_ func([]int, int) (int, bool)                                   = set.Find
	_ func([]int, int) []int                                         = set.With
	_ func([]int, int) []int                                         = set.Without
	_ func(api.State, int, int, int) (api.State, api.Ret, api.Errno) = set.Apply
)

// The greatest number, and the least.
const (
	greatest = math.MaxInt
	least    = math.MinInt
)

// The kinds by the document's numbers, so that the tests hang on no name.
const (
	insert = 3
	remove = 4
	has    = 5
	size   = 6
)

func of(l ...int) api.State { return api.State{Type: 2, L: l} }
func told(n int) api.Ret    { return api.Ret{Kind: 2, N: n} }

// edges are numbers about which something changes, rising.
func edges() []int {
	return []int{least, least + 1, -1 << 32, -7, -2, -1, 0, 1, 2, 5, 1 << 31, greatest - 1, greatest}
}

// subsets are all sets of numbers of l, which rises.
func subsets(l []int) [][]int {
	out := make([][]int, 0, 1<<len(l))
	for bits := range 1 << len(l) {
		var some []int
		for i, n := range l {
			if bits>>i&1 == 1 {
				some = append(some, n)
			}
		}
		out = append(out, some)
	}
	return out
}

// steps is a set of count numbers, each gap away from the next one.
func steps(count, first, gap int) []int {
	l := make([]int, count)
	for i := range l {
		l[i] = first + i*gap
	}
	return l
}

// numbers are many, the same ones each time, of which some come more than once.
func numbers(count, most int) []int {
	l := make([]int, count)
	x := uint64(88172645463325252)
	for i := range l {
		x ^= x << 13
		x ^= x >> 7
		x ^= x << 17
		l[i] = int(x>>1)%(2*most+1) - most
	}
	return l
}

// found is what Find must answer, each number of l looked at.
func found(l []int, x int) (int, bool) {
	less, there := 0, false
	for _, n := range l {
		if n < x {
			less++
		}
		there = there || n == x
	}
	return less, there
}

// with is what With must answer, by way of a sort.
func with(l []int, x int) []int {
	out := append(slices.Clone(l), x)
	slices.Sort(out)
	return slices.Compact(out)
}

// without is what Without must answer.
func without(l []int, x int) []int {
	return slices.DeleteFunc(slices.Clone(l), func(n int) bool { return n == x })
}

// isSet tells whether a state is a set in its form, by the document's words.
func isSet(s api.State) bool {
	if s.Type != 2 || s.N != 0 {
		return false
	}
	for i := 1; i < len(s.L); i++ {
		if s.L[i-1] >= s.L[i] {
			return false
		}
	}
	return true
}

// applied is what Apply must answer, by the chapter's words in their order.
func applied(s api.State, kind, a, b int) (api.State, api.Ret, api.Errno) {
	switch {
	case !isSet(s):
		return api.State{}, api.Ret{}, 12
	case kind < 3 || kind > 6:
		return api.State{}, api.Ret{}, 6
	case b != 0 || kind == size && a != 0:
		return api.State{}, api.Ret{}, 2
	case kind == size:
		return s, told(len(s.L)), 0
	}
	_, there := found(s.L, a)
	yes, no := told(1), told(0)
	switch {
	case kind == insert && !there:
		return of(with(s.L, a)...), yes, 0
	case kind == remove && there:
		return of(without(s.L, a)...), yes, 0
	case kind == has && there:
		return s, yes, 0
	}
	return s, no, 0
}

// like tells whether two states are the same, by the test's own look.
func like(a, b api.State) bool {
	return a.Type == b.Type && a.N == b.N && slices.Equal(a.L, b.L)
}

func expectFind(t *testing.T, l []int, x, want int, there bool) {
	t.Helper()
	if n, is := set.Find(l, x); n != want || is != there {
		t.Errorf("Find(%.20v, %d): %d, %v; want %d, %v", l, x, n, is, want, there)
	}
}

func expectWith(t *testing.T, l []int, x int, want ...int) {
	t.Helper()
	if out := set.With(l, x); !slices.Equal(out, want) {
		t.Errorf("With(%.20v, %d): %.20v; want %.20v", l, x, out, want)
	}
}

func expectWithout(t *testing.T, l []int, x int, want ...int) {
	t.Helper()
	if out := set.Without(l, x); !slices.Equal(out, want) {
		t.Errorf("Without(%.20v, %d): %.20v; want %.20v", l, x, out, want)
	}
}

// expectAll holds Find, With and Without of a set against the chapter's words.
func expectAll(t *testing.T, l []int, x int) {
	t.Helper()
	n, there := found(l, x)
	expectFind(t, l, x, n, there)
	expectWith(t, l, x, with(l, x)...)
	expectWithout(t, l, x, without(l, x)...)
}

func expect(t *testing.T, s api.State, kind, a, b int, want api.State, ret api.Ret, err api.Errno) {
	t.Helper()
	if then, r, e := set.Apply(s, kind, a, b); !like(then, want) || r != ret || e != err {
		t.Errorf("Apply(%.20v, %d, %d, %d): %.20v, %v, %v; want %.20v, %v, %v", s, kind, a, b, then, r, e, want, ret, err)
	}
}

// done is an operation that must be OK: n is what it must return, and want the numbers that must be there then.
func done(t *testing.T, l []int, kind, a, n int, want ...int) {
	t.Helper()
	expect(t, of(l...), kind, a, 0, of(want...), told(n), 0)
}

func refuse(t *testing.T, s api.State, kind, a, b int, err api.Errno) {
	t.Helper()
	expect(t, s, kind, a, b, api.State{}, api.Ret{}, err)
}

// apply is the numbers then, and what was returned; the operation must be OK, and the answer a set that returns a number.
func apply(t *testing.T, l []int, kind, a int) ([]int, int) {
	t.Helper()
	s, ret, e := set.Apply(of(l...), kind, a, 0)
	if e != api.OK || !isSet(s) || ret.Kind != 2 {
		t.Fatalf("Apply(%.20v, %d, %d): %.20v, %v, %v", l, kind, a, s, ret, e)
	}
	return s.L, ret.N
}

// TestExamples holds the chapter's table.
func TestExamples(t *testing.T) {
	expectFind(t, []int{1, 4, 9}, 4, 1, true)
	expectFind(t, []int{1, 4, 9}, 5, 2, false)
	expectFind(t, nil, 5, 0, false)
	expectWith(t, []int{1, 4}, 2, 1, 2, 4)
	expectWithout(t, []int{1, 4}, 4, 1)
	expectWith(t, []int{1}, 1, 1)
	l := []int{1, 4}
	done(t, l, insert, 2, 1, 1, 2, 4)
	done(t, l, insert, 4, 0, 1, 4)
	done(t, l, remove, 1, 1, 4)
	done(t, l, has, 9, 0, 1, 4)
	done(t, l, size, 0, 2, 1, 4)
	refuse(t, of(4, 1), size, 0, 0, api.ErrState)
	refuse(t, of(1, 4), 10, 1, 0, api.ErrWord)
	refuse(t, of(1), size, 1, 0, api.ErrArg)
	refuse(t, api.State{Type: 4}, size, 0, 0, api.ErrState)
	if api.Set != 2 || api.Insert != insert || api.Remove != remove || api.Has != has || api.Size != size || api.RetNumber != 2 || api.ErrArg != 2 || api.ErrWord != 6 || api.ErrState != 12 {
		t.Error("the numbers are not the document's")
	}
}

// P7.1: Find, With, Without.

func TestFind(t *testing.T) {
	for _, x := range []struct {
		l     []int
		x, n  int
		there bool
	}{
		{nil, 0, 0, false}, {[]int{}, 0, 0, false}, {nil, least, 0, false}, {nil, greatest, 0, false},
		{[]int{7}, 6, 0, false}, {[]int{7}, 7, 0, true}, {[]int{7}, 8, 1, false}, {[]int{7}, least, 0, false}, {[]int{7}, greatest, 1, false},
		{[]int{-3, 3}, -4, 0, false}, {[]int{-3, 3}, -3, 0, true}, {[]int{-3, 3}, 0, 1, false}, {[]int{-3, 3}, 3, 1, true}, {[]int{-3, 3}, 4, 2, false},
		{[]int{1, 4, 9}, 0, 0, false}, {[]int{1, 4, 9}, 1, 0, true}, {[]int{1, 4, 9}, 2, 1, false}, {[]int{1, 4, 9}, 9, 2, true}, {[]int{1, 4, 9}, 10, 3, false},
		{[]int{2, 4, 6, 8}, 2, 0, true}, {[]int{2, 4, 6, 8}, 5, 2, false}, {[]int{2, 4, 6, 8}, 8, 3, true}, {[]int{2, 4, 6, 8}, 9, 4, false},
		{[]int{least, 0, greatest}, least, 0, true}, {[]int{least, 0, greatest}, least + 1, 1, false}, {[]int{least, 0, greatest}, -1, 1, false}, {[]int{least, 0, greatest}, 1, 2, false}, {[]int{least, 0, greatest}, greatest - 1, 2, false}, {[]int{least, 0, greatest}, greatest, 2, true},
		{[]int{least + 1, greatest - 1}, least, 0, false}, {[]int{least + 1, greatest - 1}, greatest, 2, false},
	} {
		expectFind(t, x.l, x.x, x.n, x.there)
	}
}

func TestWith(t *testing.T) {
	expectWith(t, nil, 5, 5)
	expectWith(t, []int{}, 0, 0)
	expectWith(t, nil, least, least)
	expectWith(t, nil, greatest, greatest)
	expectWith(t, []int{5}, 4, 4, 5)
	expectWith(t, []int{5}, 5, 5)
	expectWith(t, []int{5}, 6, 5, 6)
	expectWith(t, []int{1, 4}, 1, 1, 4)
	expectWith(t, []int{1, 4}, 4, 1, 4)
	expectWith(t, []int{1, 4}, 0, 0, 1, 4)
	expectWith(t, []int{1, 4}, 5, 1, 4, 5)
	expectWith(t, []int{1, 4, 9}, 5, 1, 4, 5, 9)
	expectWith(t, []int{1, 4, 9, 16}, -5, -5, 1, 4, 9, 16)
	expectWith(t, []int{-1, 1}, least, least, -1, 1)
	expectWith(t, []int{-1, 1}, greatest, -1, 1, greatest)
	expectWith(t, []int{least, greatest}, least, least, greatest)
	expectWith(t, []int{least, greatest}, greatest, least, greatest)
	expectWith(t, []int{least, greatest}, 0, least, 0, greatest)
}

func TestWithout(t *testing.T) {
	expectWithout(t, nil, 5)
	expectWithout(t, []int{}, 0)
	expectWithout(t, []int{5}, 5)
	expectWithout(t, []int{5}, 4, 5)
	expectWithout(t, []int{5}, 6, 5)
	expectWithout(t, []int{1, 4}, 1, 4)
	expectWithout(t, []int{1, 4}, 4, 1)
	expectWithout(t, []int{1, 4}, 3, 1, 4)
	expectWithout(t, []int{1, 4, 9}, 4, 1, 9)
	expectWithout(t, []int{1, 4, 9, 16}, 9, 1, 4, 16)
	expectWithout(t, []int{1, 4, 9, 16}, 17, 1, 4, 9, 16)
	expectWithout(t, []int{least, 0, greatest}, least, 0, greatest)
	expectWithout(t, []int{least, 0, greatest}, greatest, least, 0)
	expectWithout(t, []int{least + 1, greatest - 1}, least, least+1, greatest-1)
	expectWithout(t, []int{least + 1, greatest - 1}, greatest, least+1, greatest-1)
}

// TestEachSet: each set of some edges, asked for each edge; and sets of each length, asked at, ahead of and behind each number.
func TestEachSet(t *testing.T) {
	for _, l := range subsets(edges()) {
		for _, x := range edges() {
			expectAll(t, l, x)
		}
	}
	for count := range 70 {
		l := steps(count, -count, 2)
		for x := -count - 2; x <= count+2; x++ {
			expectAll(t, l, x)
		}
	}
}

func TestManyNumbers(t *testing.T) {
	for _, count := range []int{1 << 16, 1<<16 + 1, 1<<16 - 1, 99999} {
		l := steps(count, -count, 2)
		for i, n := range l {
			expectFind(t, l, n-1, i, false)
			expectFind(t, l, n, i, true)
		}
		expectFind(t, l, count, count, false)
		for _, x := range []int{-count - 1, -count, -count + 1, 0, 1, count - 3, count - 2, count - 1, count} {
			expectAll(t, l, x)
		}
	}
}

// TestNotRising: of lists that do not rise just this is promised, that the calls end.
func TestNotRising(t *testing.T) {
	small := []int{least, -1, 0, 1, greatest}
	lists := [][]int{{}}
	for from := 0; from < len(lists); from++ {
		l := lists[from]
		for _, x := range append(edges(), 3) {
			set.Find(l, x)
			set.With(l, x)
			set.Without(l, x)
		}
		for _, n := range small {
			if len(l) < 5 {
				lists = append(lists, append(slices.Clone(l), n))
			}
		}
	}
	many := numbers(10000, 50)
	for x := -60; x <= 60; x++ {
		set.Find(many, x)
		set.With(many, x)
		set.Without(many, x)
	}
	if len(lists) != 1+5+25+125+625+3125 || slices.IsSorted(many) {
		t.Error("the test itself is wrong:", len(lists))
	}
}

// P7.2: Apply.

func TestInsert(t *testing.T) {
	done(t, nil, insert, 0, 1, 0)
	done(t, nil, insert, 5, 1, 5)
	done(t, nil, insert, least, 1, least)
	done(t, nil, insert, greatest, 1, greatest)
	done(t, []int{5}, insert, 5, 0, 5)
	done(t, []int{5}, insert, 4, 1, 4, 5)
	done(t, []int{5}, insert, 6, 1, 5, 6)
	done(t, []int{1, 4}, insert, 1, 0, 1, 4)
	done(t, []int{1, 4}, insert, 0, 1, 0, 1, 4)
	done(t, []int{1, 4}, insert, 9, 1, 1, 4, 9)
	done(t, []int{1, 4, 9}, insert, 5, 1, 1, 4, 5, 9)
	done(t, []int{least, greatest}, insert, least, 0, least, greatest)
	done(t, []int{least, greatest}, insert, greatest, 0, least, greatest)
	done(t, []int{-1, 1}, insert, least, 1, least, -1, 1)
	done(t, []int{-1, 1}, insert, greatest, 1, -1, 1, greatest)
}

func TestRemove(t *testing.T) {
	done(t, nil, remove, 0, 0)
	done(t, nil, remove, least, 0)
	done(t, []int{5}, remove, 5, 1)
	done(t, []int{5}, remove, 4, 0, 5)
	done(t, []int{5}, remove, 6, 0, 5)
	done(t, []int{1, 4}, remove, 4, 1, 1)
	done(t, []int{1, 4}, remove, 2, 0, 1, 4)
	done(t, []int{1, 4, 9}, remove, 4, 1, 1, 9)
	done(t, []int{least, greatest}, remove, least, 1, greatest)
	done(t, []int{least, greatest}, remove, greatest, 1, least)
	done(t, []int{-1, 1}, remove, greatest, 0, -1, 1)
	done(t, []int{-1, 1}, remove, least, 0, -1, 1)
}

func TestHas(t *testing.T) {
	done(t, nil, has, 0, 0)
	done(t, []int{0}, has, 0, 1, 0)
	done(t, []int{5}, has, 5, 1, 5)
	done(t, []int{5}, has, 4, 0, 5)
	done(t, []int{1, 4, 9}, has, 1, 1, 1, 4, 9)
	done(t, []int{1, 4, 9}, has, 9, 1, 1, 4, 9)
	done(t, []int{1, 4, 9}, has, 5, 0, 1, 4, 9)
	done(t, []int{least, greatest}, has, least, 1, least, greatest)
	done(t, []int{least, greatest}, has, greatest, 1, least, greatest)
	done(t, []int{-1, 1}, has, least, 0, -1, 1)
	done(t, []int{-1, 1}, has, greatest, 0, -1, 1)
}

func TestSize(t *testing.T) {
	done(t, nil, size, 0, 0)
	done(t, []int{}, size, 0, 0)
	done(t, []int{0}, size, 0, 1, 0)
	done(t, []int{least, greatest}, size, 0, 2, least, greatest)
	for count := range 100 {
		l := steps(count, -7, 3)
		done(t, l, size, 0, count, l...)
	}
	l := steps(1<<17, -5, 1)
	done(t, l, size, 0, 1<<17, l...)
}

func TestArguments(t *testing.T) {
	for _, s := range []api.State{of(), of(0), of(1), of(1, 4), of(edges()...)} {
		for _, x := range edges() {
			for _, y := range edges() {
				if x != 0 || y != 0 {
					refuse(t, s, size, x, y, api.ErrArg)
				}
				for _, kind := range []int{insert, remove, has} {
					if y != 0 {
						refuse(t, s, kind, x, y, api.ErrArg)
					}
				}
			}
		}
	}
}

// noKinds are all kinds of other types, and numbers that are no kind; some are a set's, but for the bits above.
func noKinds() []int {
	l := []int{0, 1, 2, -1, -2, 16, 17, 255, 256, 259, 260, 261, 262, 1<<16 + 3, 1<<32 + 3, 1<<32 + 6, least, least + 3, least + 6, greatest, greatest - 1}
	for kind := 3; kind <= 15; kind++ {
		l = append(l, -kind)
		if kind > size {
			l = append(l, kind)
		}
	}
	return l
}

// TestKinds: a kind that is none of these goes ahead of arguments that are wrong.
func TestKinds(t *testing.T) {
	for _, kind := range noKinds() {
		for _, s := range []api.State{of(), of(0), of(1, 4), of(edges()...)} {
			for _, x := range []int{0, 1, -1, 4, least, greatest} {
				for _, y := range []int{0, 1, -1, least, greatest} {
					refuse(t, s, kind, x, y, api.ErrWord)
				}
			}
		}
	}
}

// noSets are states of other types, in their form and not, of no type, and sets that are not in their form.
func noSets() []api.State {
	var out []api.State
	for _, kind := range []int{0, 1, 3, 4, 5, 6, 7, -1, -2, 255, 256, 258, 1<<32 + 2, least, least + 2, greatest} {
		for _, n := range []int{0, 1, -1, least, greatest} {
			out = append(out, api.State{Type: kind, N: n})
		}
		out = append(out, api.State{Type: kind, L: []int{}}, api.State{Type: kind, L: []int{5}}, api.State{Type: kind, L: []int{1, 2}}, api.State{Type: kind, L: []int{2, 1, 0}})
	}
	for _, n := range []int{1, 2, -1, 1 << 32, least, greatest} {
		out = append(out, api.State{Type: 2, N: n}, api.State{Type: 2, N: n, L: []int{1}}, api.State{Type: 2, N: n, L: []int{1, 4}}, api.State{Type: 2, N: n, L: []int{4, 1}})
	}
	for _, l := range [][]int{{4, 1}, {1, 1}, {0, 0}, {least, least}, {greatest, greatest}, {greatest, least}, {1, 4, 4}, {1, 1, 4}, {1, 9, 4}, {9, 1, 4}, {1, 2, 3, 4, 5, 5}, {1, 2, 3, 4, 5, 4}, {2, 1, 3, 4, 5, 6}, {3, 2, 1}, make([]int, 1000)} {
		out = append(out, of(l...))
	}
	return out
}

// TestStates: a state that is no set goes ahead of a kind that is none, and that ahead of arguments that are wrong.
func TestStates(t *testing.T) {
	for _, s := range noSets() {
		for _, kind := range append(noKinds(), insert, remove, has, size) {
			refuse(t, s, kind, 0, 0, api.ErrState)
			refuse(t, s, kind, 1, 0, api.ErrState)
			refuse(t, s, kind, 0, 1, api.ErrState)
			refuse(t, s, kind, least, greatest, api.ErrState)
		}
	}
}

// TestEverywhere holds Apply against the chapter's words at all of these together, so that it ends and answers everywhere, each time the same.
func TestEverywhere(t *testing.T) {
	states := append(noSets(), api.State{Type: 2}, of([]int{}...))
	for _, l := range subsets([]int{least, -1, 0, 1, 5, greatest}) {
		states = append(states, of(l...))
	}
	count := map[api.Errno]int{}
	for _, s := range states {
		for kind := -3; kind <= 18; kind++ {
			for _, x := range []int{0, 1, -1, 3, 5, least, greatest} {
				for _, y := range []int{0, 1, -1, least, greatest} {
					then, ret, err := applied(s, kind, x, y)
					count[err]++
					expect(t, s, kind, x, y, then, ret, err)
					expect(t, s, kind, x, y, then, ret, err)
				}
			}
		}
	}
	if len(count) != 4 || count[api.OK] < 1000 || count[api.ErrArg] < 1000 || count[api.ErrWord] < 1000 || count[api.ErrState] < 1000 {
		t.Error("the test itself is wrong:", count)
	}
}

// TestEachState: each set of some edges, and each operation on it; what is answered is a set in its form.
func TestEachState(t *testing.T) {
	for _, l := range subsets(edges()[2:]) {
		for kind := insert; kind <= size; kind++ {
			for _, x := range edges() {
				if kind == size {
					x = 0
				}
				want, ret, err := applied(of(l...), kind, x, 0)
				expect(t, of(l...), kind, x, 0, want, ret, err)
				then, _, _ := set.Apply(of(l...), kind, x, 0)
				if e := state.Check(then); e != api.OK || !state.Same(then, want) {
					t.Errorf("Apply(%v, %d, %d): %v is not in its form: %v", l, kind, x, then, e)
				}
			}
		}
	}
}

// P7.3: what follows.

// TestThereAndGone: what was inserted is there, what was removed is not, and all else stays; Size goes with it; who returns 0 changes nothing, and who returns 1 changes something.
func TestThereAndGone(t *testing.T) {
	for _, l := range subsets(edges()[:9]) {
		for _, x := range edges() {
			_, was := apply(t, l, has, x)
			in, came := apply(t, l, insert, x)
			out, went := apply(t, l, remove, x)
			if came != 1-was || went != was {
				t.Errorf("%v: Has %d is %d, Insert %d, Remove %d", l, x, was, came, went)
			}
			if slices.Equal(in, l) != (came == 0) || slices.Equal(out, l) != (went == 0) {
				t.Errorf("%v: Insert %d is %d and makes %v, Remove %d and %v", l, x, came, in, went, out)
			}
			for _, y := range edges() {
				_, ahead := apply(t, l, has, y)
				_, inThen := apply(t, in, has, y)
				_, outThen := apply(t, out, has, y)
				if x == y && (inThen != 1 || outThen != 0) || x != y && (inThen != ahead || outThen != ahead) {
					t.Errorf("%v: Has %d is %d; behind Insert %d %d, behind Remove %d", l, y, ahead, x, inThen, outThen)
				}
			}
			done(t, l, size, 0, len(l), l...)
			done(t, in, size, 0, len(l)+came, in...)
			done(t, out, size, 0, len(l)-went, out...)
		}
	}
}

// TestAgain: to do it once more changes nothing; an Insert and a Remove of what was not there, or the other way about, come to what was.
func TestAgain(t *testing.T) {
	for _, l := range subsets(edges()[4:]) {
		for _, x := range edges() {
			in, came := apply(t, l, insert, x)
			done(t, in, insert, x, 0, in...)
			out, went := apply(t, l, remove, x)
			done(t, out, remove, x, 0, out...)
			done(t, in, remove, x, 1, out...)
			done(t, out, insert, x, 1, in...)
			if came == 1 && !slices.Equal(out, l) || went == 1 && !slices.Equal(in, l) {
				t.Errorf("%v: with %d %v, without it %v", l, x, in, out)
			}
		}
	}
}

// orders are all orders of l.
func orders(l []int) [][]int {
	if len(l) == 0 {
		return [][]int{nil}
	}
	var out [][]int
	for i, first := range l {
		for _, rest := range orders(slices.Delete(slices.Clone(l), i, i+1)) {
			out = append(out, append([]int{first}, rest...))
		}
	}
	return out
}

// TestOrders: in whatever order numbers come, and however often, each is there once.
func TestOrders(t *testing.T) {
	for _, want := range [][]int{nil, {5}, {-1, 1}, {least, 0, greatest}, {1, 2, 3, 4}, {least, -5, 0, 5, greatest}, {-3, -2, -1, 0, 1, 2}} {
		for _, come := range orders(want) {
			var l []int
			for i, x := range come {
				for again := range 3 {
					then, n := apply(t, l, insert, x)
					if n == 0 != (again > 0) || len(then) != i+1 {
						t.Errorf("%v: Insert %d: %v, %d", l, x, then, n)
					}
					l = then
				}
			}
			if !slices.Equal(l, want) {
				t.Errorf("inserted in the order %v: %v", come, l)
			}
			for i, x := range come {
				then, n := apply(t, l, remove, x)
				if n != 1 || len(then) != len(come)-i-1 {
					t.Errorf("%v: Remove %d: %v, %d", l, x, then, n)
				}
				l = then
			}
		}
	}
}

// TestLongRun: many operations one behind the other, against numbers that are kept in a map.
func TestLongRun(t *testing.T) {
	for _, most := range []int{2, 20, 1000} {
		kept := map[int]bool{}
		var l []int
		for i, x := range numbers(20000, most) {
			kind := []int{insert, remove, has, insert}[i/3%4]
			then, n := apply(t, l, kind, x)
			if was := kept[x]; n == 1 != (was == (kind != insert)) || n < 0 || n > 1 {
				t.Fatalf("%.20v: kind %d of %d, which was there %v: %d", l, kind, x, was, n)
			}
			switch kind {
			case insert:
				kept[x] = true
			case remove:
				delete(kept, x)
			}
			l = then
			if _, n := apply(t, l, size, 0); n != len(kept) || len(l) != len(kept) {
				t.Fatalf("%d numbers are there, Size is %d; want %d", len(l), n, len(kept))
			}
		}
		for _, x := range l {
			if !kept[x] {
				t.Errorf("%d is there and was not inserted", x)
			}
		}
	}
}

// What is handed in, and what is answered.

// TestHandedIn: lists stay as they were, their spare room too, and what stands there is not looked at.
func TestHandedIn(t *testing.T) {
	for count := range 7 {
		for x := -1; x <= 2*count+1; x++ {
			room := append(steps(count, 0, 2), x, x, x)
			l, kept := room[:count], slices.Clone(room)
			expectAll(t, l, x)
			for kind := insert; kind <= size; kind++ {
				for _, a := range []int{x, 0} {
					want, ret, err := applied(of(kept[:count]...), kind, a, 0)
					expect(t, of(l...), kind, a, 0, want, ret, err)
				}
			}
			refuse(t, of(l...), insert, x, 1, api.ErrArg)
			refuse(t, of(l...), 1, x, 0, api.ErrWord)
			refuse(t, api.State{Type: 2, N: 1, L: l}, insert, x, 0, api.ErrState)
			refuse(t, api.State{Type: 4, L: l}, insert, x, 0, api.ErrState)
			if !slices.Equal(room, kept) {
				t.Errorf("%v: %v has become of it", kept, room)
			}
		}
	}
}

// mar writes over a list and its spare room.
func mar(l []int) {
	l = l[:cap(l)]
	for i := range l {
		l[i] = 77
	}
}

// TestNewMemory: to write into an answer, its spare room too, changes neither what was handed in nor another answer; nor the other way about.
func TestNewMemory(t *testing.T) {
	for count := range 7 {
		for x := -1; x <= 2*count+1; x++ {
			calls := map[string]func([]int) []int{
				"With":    func(l []int) []int { return set.With(l, x) },
				"Without": func(l []int) []int { return set.Without(l, x) },
				"Insert":  func(l []int) []int { then, _ := apply(t, l, insert, x); return then },
				"Remove":  func(l []int) []int { then, _ := apply(t, l, remove, x); return then },
				"Has":     func(l []int) []int { then, _ := apply(t, l, has, x); return then },
				"Size":    func(l []int) []int { then, _ := apply(t, l, size, 0); return then },
			}
			for name, call := range calls {
				room := append(steps(count, 0, 2), 99, 98, 97)
				kept := slices.Clone(room)
				first, second := call(room[:count]), call(room[:count])
				want := slices.Clone(second)
				if spare := first[len(first):cap(first)]; slices.ContainsFunc(spare, func(n int) bool { return n != 0 }) {
					t.Errorf("%s of %v and %d: its spare room holds %v", name, kept[:count], x, spare)
				}
				mar(first)
				if !slices.Equal(room, kept) || !slices.Equal(second, want) || !slices.Equal(call(room[:count]), want) {
					t.Errorf("%s of %v and %d: an answer is not new memory", name, kept[:count], x)
				}
				mar(room)
				if !slices.Equal(second, want) {
					t.Errorf("%s of %v and %d: an answer hangs on what was handed in", name, kept[:count], x)
				}
			}
		}
	}
}

func FuzzSet(f *testing.F) {
	f.Add(3, 2, 0, 0, 2, 1, 4, 9)
	f.Add(4, 1, 0, 0, 2, 1, 4, 4)
	f.Add(5, least, 0, 0, 2, least, 0, greatest)
	f.Add(6, 0, 1, 1, 2, 3, 2, 1)
	f.Fuzz(func(t *testing.T, kind, a, b, n, object, x, y, z int) {
		l := []int{x, y, z}
		for count := range 4 {
			s := api.State{Type: object, N: n, L: l[:count]}
			then, ret, err := applied(s, kind, a, b)
			expect(t, s, kind, a, b, then, ret, err)
			if isSet(s) {
				expectAll(t, s.L, a)
			}
		}
	})
}
