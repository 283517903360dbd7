package fifo_test

import (
	"math"
	"slices"
	"testing"

	"armistice/api"
	"armistice/fifo"
	"armistice/state"
)

// The calls must keep the chapter's signatures.
var (
	_ func(api.State, int, int, int) (api.State, api.Ret, api.Errno) = fifo.Apply
	_ func([]int, []int) bool                                        = fifo.Starts
	_ func(api.State) ([]int, api.Errno)                             = fifo.Drain
)

// The greatest number, and the least.
const (
	greatest = math.MaxInt
	least    = math.MinInt
)

// The kinds by the document's numbers, so that the tests hang on no name.
const (
	enq    = 10
	deq    = 11
	length = 12
)

func of(l ...int) api.State { return api.State{Type: 4, L: l} }
func told(n int) api.Ret    { return api.Ret{Kind: 2, N: n} }
func nothing() api.Ret      { return api.Ret{Kind: 1} }
func ok() api.Ret           { return api.Ret{} }

// edges are numbers about which something changes, rising.
func edges() []int {
	return []int{least, least + 1, -1 << 32, -7, -2, -1, 0, 1, 2, 5, 1 << 31, greatest - 1, greatest}
}

// each are all lists of these numbers that are at most so long: those that rise, fall, and hold one more than once.
func each(numbers []int, most int) [][]int {
	out := [][]int{nil}
	for from := 0; most > 0; most-- {
		till := len(out)
		for _, l := range out[from:till:till] {
			for _, x := range numbers {
				out = append(out, append(slices.Clone(l), x))
			}
		}
		from = till
	}
	return out
}

// few are queues of up to four edges.
func few() [][]int { return each([]int{least, -1, 0, 1, greatest}, 4) }

// numbers are many, the same ones each time, of which some come more than once.
func numbers(count, most int) []int {
	l := make([]int, count)
	x := uint64(88172645463325252)
	for i := range l {
		x ^= x << 13
		x ^= x >> 7
		x ^= x << 17
		l[i] = int(x>>1)%(2*most+1) - most
	}
	return l
}

// applied is what Apply must answer, by the chapter's words in their order.
func applied(s api.State, kind, a, b int) (api.State, api.Ret, api.Errno) {
	switch {
	case s.Type != 4 || s.N != 0:
		return api.State{}, api.Ret{}, 12
	case kind < 10 || kind > 12:
		return api.State{}, api.Ret{}, 6
	case b != 0 || a != 0 && kind != enq:
		return api.State{}, api.Ret{}, 2
	case kind == enq:
		return of(append(slices.Clone(s.L), a)...), ok(), 0
	case kind == length:
		return s, told(len(s.L)), 0
	case len(s.L) == 0:
		return s, nothing(), 0
	}
	return of(s.L[1:]...), told(s.L[0]), 0
}

// begins is what Starts must answer, number by number.
func begins(l, with []int) bool {
	for i, x := range with {
		if i >= len(l) || l[i] != x {
			return false
		}
	}
	return true
}

// like tells whether two states are the same, by the test's own look.
func like(a, b api.State) bool {
	return a.Type == b.Type && a.N == b.N && slices.Equal(a.L, b.L)
}

func expect(t *testing.T, s api.State, kind, a, b int, want api.State, ret api.Ret, err api.Errno) {
	t.Helper()
	if then, r, e := fifo.Apply(s, kind, a, b); !like(then, want) || r != ret || e != err {
		t.Errorf("Apply(%.20v, %d, %d, %d): %.20v, %v, %v; want %.20v, %v, %v", s, kind, a, b, then, r, e, want, ret, err)
	}
}

// done is an operation that must be OK: ret is what it must return, and want the numbers that must be there then.
func done(t *testing.T, l []int, kind, a int, ret api.Ret, want ...int) {
	t.Helper()
	expect(t, of(l...), kind, a, 0, of(want...), ret, 0)
}

func refuse(t *testing.T, s api.State, kind, a, b int, err api.Errno) {
	t.Helper()
	expect(t, s, kind, a, b, api.State{}, api.Ret{}, err)
}

func expectStarts(t *testing.T, l, with []int, want bool) {
	t.Helper()
	if is := fifo.Starts(l, with); is != want {
		t.Errorf("Starts(%.20v, %.20v): %v; want %v", l, with, is, want)
	}
}

func expectDrain(t *testing.T, s api.State, err api.Errno, want ...int) {
	t.Helper()
	if l, e := fifo.Drain(s); e != err || !slices.Equal(l, want) {
		t.Errorf("Drain(%.20v): %.20v, %v; want %.20v, %v", s, l, e, want, err)
	}
}

// apply is the numbers then, and what was returned; the operation must be OK, and the answer a queue in its form.
func apply(t *testing.T, l []int, kind, a int) ([]int, api.Ret) {
	t.Helper()
	s, ret, e := fifo.Apply(of(l...), kind, a, 0)
	if e != api.OK || s.Type != 4 || s.N != 0 || state.Check(s) != api.OK {
		t.Fatalf("Apply(%.20v, %d, %d, 0): %.20v, %v, %v", l, kind, a, s, ret, e)
	}
	return s.L, ret
}

// taken is what Deq returns, again and again, till it returns nothing.
func taken(t *testing.T, l []int) []int {
	t.Helper()
	var out []int
	for {
		then, ret := apply(t, l, deq, 0)
		if ret == nothing() {
			if len(then) != 0 || len(l) != 0 {
				t.Errorf("nothing is taken off %.20v, and %.20v left", l, then)
			}
			return out
		}
		if ret.Kind != 2 || len(then) != len(l)-1 {
			t.Fatalf("Deq of %.20v: %.20v, %v", l, then, ret)
		}
		out = append(out, ret.N)
		l = then
	}
}

// TestExamples holds the chapter's table.
func TestExamples(t *testing.T) {
	both := []int{3, 1}
	done(t, both, enq, 3, ok(), 3, 1, 3)
	done(t, both, deq, 0, told(3), 1)
	done(t, nil, deq, 0, nothing())
	done(t, both, length, 0, told(2), 3, 1)
	refuse(t, of(3), deq, 1, 0, api.ErrArg)
	refuse(t, of(3), 7, 1, 0, api.ErrWord)
	refuse(t, api.State{Type: 2, L: []int{3}}, deq, 0, 0, api.ErrState)
	expectStarts(t, []int{1, 2, 3}, []int{1, 2}, true)
	expectStarts(t, []int{1, 2}, []int{1, 2, 3}, false)
	expectStarts(t, []int{1}, nil, true)
	expectStarts(t, []int{1, 2}, []int{2}, false)
	expectDrain(t, of(3, 1, 3), 0, 3, 1, 3)
	if api.Queue != 4 || api.Enq != enq || api.Deq != deq || api.Len != length || api.RetOK != 0 || api.RetNone != 1 || api.RetNumber != 2 || api.ErrArg != 2 || api.ErrWord != 6 || api.ErrState != 12 {
		t.Error("the numbers are not the document's")
	}
}

// P9.1: Apply.

func TestEnq(t *testing.T) {
	done(t, nil, enq, 5, ok(), 5)
	done(t, []int{}, enq, 0, ok(), 0)
	done(t, nil, enq, least, ok(), least)
	done(t, nil, enq, greatest, ok(), greatest)
	done(t, []int{5}, enq, 4, ok(), 5, 4)
	done(t, []int{5}, enq, 5, ok(), 5, 5)
	done(t, []int{5}, enq, 6, ok(), 5, 6)
	done(t, []int{0}, enq, 0, ok(), 0, 0)
	done(t, []int{9, 4}, enq, 9, ok(), 9, 4, 9)
	done(t, []int{9, 4, 9}, enq, -9, ok(), 9, 4, 9, -9)
	done(t, []int{1, 2, 3, 4, 5, 6, 7}, enq, 0, ok(), 1, 2, 3, 4, 5, 6, 7, 0)
	done(t, []int{greatest, least}, enq, greatest, ok(), greatest, least, greatest)
	done(t, []int{least, greatest}, enq, least, ok(), least, greatest, least)
}

func TestDeq(t *testing.T) {
	done(t, nil, deq, 0, nothing())
	done(t, []int{}, deq, 0, nothing())
	done(t, []int{5}, deq, 0, told(5))
	done(t, []int{0}, deq, 0, told(0))
	done(t, []int{1}, deq, 0, told(1))
	done(t, []int{-1}, deq, 0, told(-1))
	done(t, []int{least}, deq, 0, told(least))
	done(t, []int{greatest}, deq, 0, told(greatest))
	done(t, []int{5, 4}, deq, 0, told(5), 4)
	done(t, []int{4, 5}, deq, 0, told(4), 5)
	done(t, []int{5, 5}, deq, 0, told(5), 5)
	done(t, []int{0, 0, 0}, deq, 0, told(0), 0, 0)
	done(t, []int{7, 1, 7, 2}, deq, 0, told(7), 1, 7, 2)
	done(t, []int{greatest, least, 0}, deq, 0, told(greatest), least, 0)
	done(t, []int{1, 2, 3, 4, 5, 6, 7, 8}, deq, 0, told(1), 2, 3, 4, 5, 6, 7, 8)
}

func TestLen(t *testing.T) {
	done(t, nil, length, 0, told(0))
	done(t, []int{}, length, 0, told(0))
	done(t, []int{5}, length, 0, told(1), 5)
	done(t, []int{0}, length, 0, told(1), 0)
	done(t, []int{5, 5}, length, 0, told(2), 5, 5)
	done(t, []int{9, 4, 9}, length, 0, told(3), 9, 4, 9)
	done(t, []int{greatest, least}, length, 0, told(2), greatest, least)
	for _, count := range []int{7, 8, 9, 1000, 1001, 65536, 99999} {
		l := numbers(count, 9)
		done(t, l, length, 0, told(count), l...)
		done(t, l, enq, count, ok(), append(slices.Clone(l), count)...)
		done(t, l, deq, 0, told(l[0]), l[1:]...)
	}
}

// maybe are some queues in their form: numbers that rise, fall, and are the same.
func maybe() []api.State {
	return []api.State{of(), of(0), of(3), of(1, 2, 3), of(3, 2, 1), of(4, 4), of(0, 0, 0), of(9, 1, 9, 1), of(least, greatest), of(greatest, 0, least), of(make([]int, 1001)...)}
}

// TestArguments: Enq uses the first one alone, whatever it is, Deq and Len none.
func TestArguments(t *testing.T) {
	for _, s := range maybe() {
		for _, x := range edges() {
			expect(t, s, enq, x, 0, of(append(slices.Clone(s.L), x)...), ok(), 0)
			if x == 0 {
				continue
			}
			for _, y := range edges() {
				refuse(t, s, enq, y, x, api.ErrArg)
				refuse(t, s, deq, x, y, api.ErrArg)
				refuse(t, s, deq, y, x, api.ErrArg)
				refuse(t, s, length, x, y, api.ErrArg)
				refuse(t, s, length, y, x, api.ErrArg)
			}
		}
	}
}

// noKinds are all kinds of other types, and numbers that are no kind; some are a queue's, but for the bits above.
func noKinds() []int {
	l := []int{0, -1, 16, 17, 255, 256, 266, 267, 268, 1<<16 + 10, 1<<32 + 10, 1<<32 + 12, least, least + 10, least + 12, greatest, greatest - 1}
	for kind := 1; kind <= 15; kind++ {
		l = append(l, -kind)
		if kind < enq || kind > length {
			l = append(l, kind)
		}
	}
	return l
}

// TestKinds: a kind that is none of these goes ahead of arguments that are wrong.
func TestKinds(t *testing.T) {
	for _, kind := range noKinds() {
		for _, s := range maybe() {
			for _, x := range []int{0, 1, -1, 4, least, greatest} {
				for _, y := range []int{0, 1, -1, least, greatest} {
					refuse(t, s, kind, x, y, api.ErrWord)
				}
			}
		}
	}
}

// noQueues are states of other types, in their form and not, of no type, and queues whose N is not 0.
func noQueues() []api.State {
	var out []api.State
	for _, kind := range []int{0, 1, 2, 3, 5, 6, 7, -1, -4, 255, 256, 260, 1<<32 + 4, least, least + 4, greatest} {
		for _, n := range []int{0, 1, -1, least, greatest} {
			out = append(out, api.State{Type: kind, N: n})
		}
		for _, l := range [][]int{{}, {5}, {1, 2}, {1, 2, 3, 4}, {2, 1, 1, 2}, {3, 3}} {
			out = append(out, api.State{Type: kind, L: l})
		}
	}
	for _, n := range []int{1, 2, 4, -1, 1 << 32, least, greatest} {
		for _, l := range [][]int{nil, {}, {5}, {1, 2}, {2, 1}, {3, 3}, make([]int, 1000)} {
			out = append(out, api.State{Type: 4, N: n, L: l})
		}
	}
	return out
}

// TestStates: a state that is no queue goes ahead of a kind that is none, and that ahead of arguments that are wrong.
func TestStates(t *testing.T) {
	for _, s := range noQueues() {
		for _, kind := range append(noKinds(), enq, deq, length) {
			refuse(t, s, kind, 0, 0, api.ErrState)
			refuse(t, s, kind, 1, 0, api.ErrState)
			refuse(t, s, kind, 0, 1, api.ErrState)
			refuse(t, s, kind, least, greatest, api.ErrState)
		}
	}
}

// TestEverywhere holds Apply against the chapter's words at all of these together, so that it ends and answers everywhere, each time the same.
func TestEverywhere(t *testing.T) {
	states := append(noQueues(), api.State{Type: 4}, of([]int{}...))
	for _, l := range each([]int{least, 0, 5, greatest}, 3) {
		states = append(states, of(l...))
	}
	count := map[api.Errno]int{}
	for _, s := range states {
		for kind := -3; kind <= 18; kind++ {
			for _, x := range []int{0, 1, -1, 3, 5, least, greatest} {
				for _, y := range []int{0, 1, -1, least, greatest} {
					then, ret, err := applied(s, kind, x, y)
					count[err]++
					expect(t, s, kind, x, y, then, ret, err)
					expect(t, s, kind, x, y, then, ret, err)
				}
			}
		}
	}
	if len(count) != 4 || count[api.OK] < 500 || count[api.ErrArg] < 1000 || count[api.ErrWord] < 1000 || count[api.ErrState] < 1000 {
		t.Error("the test itself is wrong:", count)
	}
}

// P9.2: Starts, Drain.

func TestStarts(t *testing.T) {
	many := []int{4, 0, 4, least, greatest, 4, 0}
	for _, x := range []struct {
		l, with []int
		want    bool
	}{
		{nil, nil, true}, {nil, []int{}, true}, {[]int{}, nil, true}, {nil, []int{0}, false}, {[]int{}, []int{5}, false}, {nil, many, false},
		{[]int{5}, nil, true}, {[]int{5}, []int{}, true}, {[]int{5}, []int{5}, true}, {[]int{5}, []int{4}, false}, {[]int{5}, []int{-5}, false}, {[]int{5}, []int{5, 5}, false}, {[]int{0}, []int{0, 0}, false}, {[]int{0}, []int{0}, true},
		{many, nil, true}, {many, many, true}, {many, append(slices.Clone(many), 0), false}, {many, append(slices.Clone(many), 4), false}, {many[:6], many, false},
		{many, []int{5, 0, 4, least, greatest, 4, 0}, false}, {many, []int{4, 0, 4, least, greatest, 4, 1}, false}, {many, []int{4, 0, 4, least + 1, greatest, 4, 0}, false}, {many, []int{4, 0, 4, least, greatest - 1, 4, 0}, false},
		{many, []int{4, 0}, true}, {many, []int{0, 4}, false}, {many, []int{0}, false}, {many, []int{least, greatest}, false}, {many, []int{4, 0, 0}, false}, {many, []int{4, 4}, false}, {many, []int{greatest}, false}, {many, []int{4, 0, 4, greatest}, false}, {many, []int{4, 0, 4, least}, true},
		{[]int{1, 2}, []int{2, 1}, false}, {[]int{1, 2}, []int{1, 2, 0}, false}, {[]int{3, 3, 3}, []int{3, 3}, true}, {[]int{3, 3}, []int{3, 3, 3}, false}, {[]int{least}, []int{greatest}, false}, {[]int{1 << 32}, []int{0}, false}, {[]int{1}, []int{1<<32 + 1}, false},
	} {
		expectStarts(t, x.l, x.with, x.want)
	}
}

// TestEachStart: each two lists of some edges; and long ones, unlike at one place.
func TestEachStart(t *testing.T) {
	lists := each([]int{least, 0, 1, greatest}, 4)
	starts := 0
	for _, l := range lists {
		for _, with := range lists {
			expectStarts(t, l, with, begins(l, with))
			if begins(l, with) {
				starts++
			}
		}
	}
	// A list of n numbers has n+1 beginnings.
	if len(lists) != 341 || starts != 1+2*4+3*16+4*64+5*256 {
		t.Error("the test itself is wrong:", len(lists), starts)
	}
	for count := range 60 {
		l := numbers(count, 5)
		for till := range count + 1 {
			expectStarts(t, l, l[:till], true)
			expectStarts(t, l[:till], l, till == count)
			with := slices.Clone(l)
			if till < count {
				with[till]++
				expectStarts(t, l, with, false)
				expectStarts(t, l, with[:till+1], false)
				expectStarts(t, l, with[:till], true)
			}
		}
	}
}

func TestDrain(t *testing.T) {
	expectDrain(t, of(), 0)
	expectDrain(t, of([]int{}...), 0)
	for _, x := range edges() {
		expectDrain(t, of(x), 0, x)
		expectDrain(t, of(x, x), 0, x, x)
		expectDrain(t, of(x, 0), 0, x, 0)
		expectDrain(t, of(0, x), 0, 0, x)
		expectDrain(t, of(x, 3, x, -3, x), 0, x, 3, x, -3, x)
	}
	expectDrain(t, of(edges()...), 0, edges()...)
	for _, count := range []int{7, 8, 9, 1000, 1001, 65536, 99999} {
		l := numbers(count, 9)
		expectDrain(t, of(l...), 0, l...)
	}
	for _, s := range noQueues() {
		expectDrain(t, s, api.ErrState)
	}
}

// TestDrainIsDeq: what is drained is what Deq returns, again and again.
func TestDrainIsDeq(t *testing.T) {
	lists := append(few(), numbers(500, 3), numbers(501, greatest/4))
	for _, l := range lists {
		want := taken(t, l)
		expectDrain(t, of(l...), 0, want...)
		expectDrain(t, of(l...), 0, l...)
	}
}

// P9.3: what follows.

// TestEachState: each queue of some edges, and each operation on it.
func TestEachState(t *testing.T) {
	for _, l := range few() {
		for kind := enq; kind <= length; kind++ {
			want, ret, err := applied(of(l...), kind, 0, 0)
			expect(t, of(l...), kind, 0, 0, want, ret, err)
			then, _ := apply(t, l, kind, 0)
			if !state.Same(of(then...), want) {
				t.Errorf("Apply(%v, %d): %v; want %v", l, kind, then, want)
			}
		}
		for _, x := range edges() {
			done(t, l, enq, x, ok(), append(slices.Clone(l), x)...)
		}
	}
}

// TestPutInAndTakenOff: what is put in behind comes off behind all that was there, and Deq of what was there is the same with it and without.
func TestPutInAndTakenOff(t *testing.T) {
	for _, l := range few() {
		for _, x := range []int{least, -1, 0, 7, greatest} {
			in, _ := apply(t, l, enq, x)
			if got := taken(t, in); !slices.Equal(got, append(slices.Clone(l), x)) {
				t.Errorf("%v and %d: taken off %v", l, x, got)
			}
			done(t, in, length, 0, told(len(l)+1), in...)
			if len(l) == 0 {
				done(t, in, deq, 0, told(x))
				continue
			}
			out, first := apply(t, l, deq, 0)
			both, _ := apply(t, out, enq, x)
			done(t, in, deq, 0, first, both...)
			done(t, out, length, 0, told(len(l)-1), out...)
		}
	}
}

// run does operations one behind the other on an empty queue: which kind comes is told by next, from how many are there. What is taken off must be what was put in, in that order.
func run(t *testing.T, in []int, next func(at, there int) int) (most int) {
	t.Helper()
	var l []int
	put, off := 0, 0
	for at := 0; put < len(in); at++ {
		switch kind := next(at, put-off); kind {
		case enq:
			then, ret := apply(t, l, enq, in[put])
			if ret != ok() {
				t.Fatalf("Enq returned %v", ret)
			}
			l = then
			put++
		case deq:
			want := nothing()
			if off < put {
				want = told(in[off])
				off++
			}
			then, ret := apply(t, l, deq, 0)
			if ret != want {
				t.Fatalf("%d put in, %d taken off: Deq returned %v; want %v", put, off, ret, want)
			}
			l = then
		}
		if then, ret := apply(t, l, length, 0); ret != told(put-off) || !slices.Equal(then, in[off:put]) {
			t.Fatalf("%d put in, %d taken off: Len is %v; %.20v are there", put, off, ret, then)
		}
		most = max(most, put-off)
	}
	if got := taken(t, l); !slices.Equal(got, in[off:]) {
		t.Errorf("%.20v are left; want %.20v", got, in[off:])
	}
	return most
}

// TestInTurn: many more go through than are ever there at once.
func TestInTurn(t *testing.T) {
	for _, width := range []int{1, 2, 3, 7, 8, 100} {
		most := run(t, numbers(5000, 50), func(_, there int) int {
			if there < width {
				return enq
			}
			return deq
		})
		if most != width {
			t.Errorf("%d were there at once; want %d", most, width)
		}
	}
	for _, width := range []int{1, 2, 5, 60} {
		full := false
		most := run(t, numbers(5000, greatest/4), func(_, there int) int {
			if there == 0 || there == width {
				full = there == width
			}
			if full {
				return deq
			}
			return enq
		})
		if most != width {
			t.Errorf("%d were there at once; want %d", most, width)
		}
	}
}

// TestLongRun: Enq, Deq and Len as it comes, none being there at times.
func TestLongRun(t *testing.T) {
	for seed, most := range []int{1, 20, 1 << 40} {
		steps := numbers(200000, 1<<20)[seed*7:]
		bare, crowd := 0, 0
		run(t, numbers(20000, most), func(at, there int) int {
			kind := []int{enq, deq, length, enq, deq, deq, enq, enq, deq}[(steps[at%len(steps)]>>3&0xffff)%9]
			if kind == deq && there == 0 {
				bare++
			}
			crowd = max(crowd, there)
			return kind
		})
		if bare < 10 || crowd < 10 {
			t.Error("the test itself is wrong:", bare, crowd)
		}
	}
}

// What is handed in, and what is answered.

// TestHandedIn: lists stay as they were, their spare room too, and what stands there is not looked at.
func TestHandedIn(t *testing.T) {
	for count := range 7 {
		room := append(numbers(count, 5), 55, 66, 55)
		l, kept := room[:count], slices.Clone(room)
		for _, x := range []int{0, 8, 55, 66} {
			for kind := enq; kind <= length; kind++ {
				for _, y := range []int{0, 1} {
					want, ret, err := applied(of(kept[:count]...), kind, x, y)
					expect(t, of(l...), kind, x, y, want, ret, err)
				}
			}
		}
		refuse(t, of(l...), 1, 0, 0, api.ErrWord)
		refuse(t, api.State{Type: 4, N: 1, L: l}, deq, 0, 0, api.ErrState)
		refuse(t, api.State{Type: 2, L: l}, enq, 0, 0, api.ErrState)
		expectDrain(t, of(l...), 0, kept[:count]...)
		expectDrain(t, api.State{Type: 4, N: 1, L: l}, api.ErrState)
		expectStarts(t, l, kept, false)
		expectStarts(t, l, kept[:count+1], false)
		expectStarts(t, kept, l, true)
		expectStarts(t, l, l, true)
		if !slices.Equal(room, kept) {
			t.Errorf("%v: %v has become of it", kept, room)
		}
	}
}

// mar writes over a list and its spare room.
func mar(l []int) {
	l = l[:cap(l)]
	for i := range l {
		l[i] = 77
	}
}

// TestNewMemory: to write into an answer, its spare room too, changes neither what was handed in nor another answer; nor the other way about.
func TestNewMemory(t *testing.T) {
	calls := map[string]func([]int) []int{
		"Enq": func(l []int) []int { then, _ := apply(t, l, enq, 8); return then },
		"Deq": func(l []int) []int { then, _ := apply(t, l, deq, 0); return then },
		"Len": func(l []int) []int { then, _ := apply(t, l, length, 0); return then },
		"Drain": func(l []int) []int {
			out, e := fifo.Drain(of(l...))
			if e != api.OK {
				t.Errorf("Drain(%v): %v", l, e)
			}
			return out
		},
	}
	for count := range 20 {
		for name, call := range calls {
			room := append(numbers(count, 5), 99, 98, 97)
			kept := slices.Clone(room)
			first, second := call(room[:count]), call(room[:count])
			want := slices.Clone(second)
			if spare := first[len(first):cap(first)]; slices.ContainsFunc(spare, func(n int) bool { return n != 0 }) {
				t.Errorf("%s of %v: its spare room holds %v", name, kept[:count], spare)
			}
			mar(first)
			if !slices.Equal(room, kept) || !slices.Equal(second, want) || !slices.Equal(call(room[:count]), want) {
				t.Errorf("%s of %v: an answer is not new memory", name, kept[:count])
			}
			mar(room)
			if !slices.Equal(second, want) {
				t.Errorf("%s of %v: an answer hangs on what was handed in", name, kept[:count])
			}
		}
	}
}

func FuzzFifo(f *testing.F) {
	f.Add(10, 3, 0, 0, 4, 3, 1, 3, 0)
	f.Add(11, 0, 0, 0, 4, 5, 4, 4, 1)
	f.Add(12, 0, 0, 0, 4, least, 0, greatest, least)
	f.Add(11, 1, 1, 1, 2, 3, 2, 1, 0)
	f.Fuzz(func(t *testing.T, kind, a, b, n, object, u, v, w, x int) {
		l := []int{u, v, w, x}
		for count := range 5 {
			s := api.State{Type: object, N: n, L: l[:count]}
			then, ret, err := applied(s, kind, a, b)
			expect(t, s, kind, a, b, then, ret, err)
			if object == 4 && n == 0 {
				expectDrain(t, s, 0, s.L...)
			} else {
				expectDrain(t, s, api.ErrState)
			}
			for till := range 5 {
				expectStarts(t, s.L, l[:till], begins(s.L, l[:till]))
				expectStarts(t, s.L, l[till:], begins(s.L, l[till:]))
			}
		}
	})
}
