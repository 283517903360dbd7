package machine_test

import (
	"slices"
	"testing"

	"armistice/api"
	"armistice/counter"
	"armistice/escrow"
	"armistice/fifo"
	"armistice/machine"
	"armistice/mapping"
	"armistice/set"
)

// The calls must keep the chapter's signatures.
var (
	_ func(int) (int, api.Errno)                                     = machine.Type
	_ func(api.State, int, int, int) (api.State, api.Ret, api.Errno) = machine.Apply
	_ func(api.State, api.Op) (api.State, bool, api.Errno)           = machine.Legal
	_ func(api.State, []api.Op) (api.State, int, api.Errno)          = machine.Run
	_ func(api.State, []api.Op) ([]api.Ret, api.Errno)               = machine.Returns
)

// like tells whether two states are the same, by the test's own look.
func like(a, b api.State) bool {
	return a.Type == b.Type && a.N == b.N && slices.Equal(a.L, b.L)
}

func expectType(t *testing.T, kind, want int, err api.Errno) {
	t.Helper()
	if n, e := machine.Type(kind); n != want || e != err {
		t.Errorf("Type(%d): %d, %v; want %d, %v", kind, n, e, want, err)
	}
}

func expect(t *testing.T, s api.State, kind, a, b int, want api.State, ret api.Ret, err api.Errno) {
	t.Helper()
	if then, r, e := machine.Apply(s, kind, a, b); !like(then, want) || r != ret || e != err {
		t.Errorf("Apply(%.20v, %d, %d, %d): %v, %v, %v; want %v, %v, %v", s, kind, a, b, then, r, e, want, ret, err)
	}
}

func refuse(t *testing.T, s api.State, kind, a, b int, err api.Errno) {
	t.Helper()
	expect(t, s, kind, a, b, api.State{}, api.Ret{}, err)
}

func expectLegal(t *testing.T, s api.State, o api.Op, want api.State, is bool, err api.Errno) {
	t.Helper()
	if then, i, e := machine.Legal(s, o); !like(then, want) || i != is || e != err {
		t.Errorf("Legal(%.20v, %v): %v, %v, %v; want %v, %v, %v", s, o, then, i, e, want, is, err)
	}
}

func expectRun(t *testing.T, s api.State, l []api.Op, want api.State, count int, err api.Errno) {
	t.Helper()
	if then, n, e := machine.Run(s, l); !like(then, want) || n != count || e != err {
		t.Errorf("Run(%.20v, %.20v): %.20v, %d, %v; want %.20v, %d, %v", s, l, then, n, e, want, count, err)
	}
}

func expectReturns(t *testing.T, s api.State, l []api.Op, err api.Errno, want ...api.Ret) {
	t.Helper()
	if rets, e := machine.Returns(s, l); !slices.Equal(rets, want) || e != err {
		t.Errorf("Returns(%.20v, %.20v): %.20v, %v; want %.20v, %v", s, l, rets, e, want, err)
	}
}

// own is what the type's own layer answers; ErrType, if it is of none.
func own(s api.State, kind, a, b int) (api.State, api.Ret, api.Errno) {
	switch s.Type {
	case counters:
		return counter.Apply(s, kind, a, b)
	case sets:
		return set.Apply(s, kind, a, b)
	case maps:
		return mapping.Apply(s, kind, a, b)
	case queues:
		return fifo.Apply(s, kind, a, b)
	case accounts:
		return escrow.Apply(s, kind, a, b)
	}
	return api.State{}, api.Ret{}, api.ErrType
}

// TestExamples holds the chapter's table.
func TestExamples(t *testing.T) {
	expectType(t, deq, queues, 0)
	expectType(t, 0, 0, api.ErrWord)
	expectType(t, 16, 0, api.ErrWord)
	expect(t, of(sets, 1), insert, 2, 0, of(sets, 1, 2), told(1), 0)
	expect(t, tally(5), read, 0, 0, tally(5), told(5), 0)
	refuse(t, of(queues), insert, 1, 0, api.ErrWord)
	refuse(t, of(6), read, 0, 0, api.ErrType)
	expectLegal(t, of(sets, 1), op(insert, 1, told(0)), of(sets, 1), true, 0)
	expectLegal(t, of(sets, 1), op(insert, 1, told(1)), of(sets, 1), false, 0)
	expectRun(t, of(queues, 3), []api.Op{op(deq, 0, told(3)), op(deq, 0, nothing()), op(length, 0, told(0))}, of(queues), 3, 0)
	expectRun(t, tally(1), []api.Op{op(add, 2, ok()), op(read, 0, told(4)), op(read, 0, told(3))}, tally(3), 1, api.ErrReturn)
	expectReturns(t, account(1), []api.Op{op(withdraw, 2, told(1)), op(deposit, 3, told(1)), op(balance, 0, told(0))}, 0, told(0), told(1), told(4))
}

// TestNumbers: the numbers of the types, the kinds, the returns and the errors are the document's.
func TestNumbers(t *testing.T) {
	for i, l := range [][]int{
		{api.Counter, api.Set, api.Map, api.Queue, api.Escrow},
		{api.Add, api.Read, api.Insert, api.Remove, api.Has, api.Size, api.Put, api.Get, api.Del, api.Enq, api.Deq, api.Len, api.Deposit, api.Withdraw, api.Balance},
		{api.RetOK + 1, api.RetNone + 1, api.RetNumber + 1},
	} {
		for at, n := range l {
			if n != at+1 {
				t.Errorf("%d: %d at %d", i, n, at)
			}
		}
	}
	if api.OK != 0 || api.ErrArg != 2 || api.ErrWord != 6 || api.ErrType != 8 || api.ErrReturn != 9 || api.ErrState != 12 || api.Cap != most {
		t.Error("the errors, or the cap")
	}
}

// P11.1: Type and Apply.

func TestType(t *testing.T) {
	for kind, want := range map[int]int{
		add: counters, read: counters,
		insert: sets, remove: sets, has: sets, size: sets,
		put: maps, get: maps, del: maps,
		enq: queues, deq: queues, length: queues,
		deposit: accounts, withdraw: accounts, balance: accounts,
	} {
		expectType(t, kind, want, 0)
	}
	for _, kind := range append(noKinds(), edges()...) {
		if kind < 1 || kind > 15 {
			expectType(t, kind, 0, api.ErrWord)
		}
	}
	for kind := -1000; kind <= 1000; kind++ {
		want := typeOf(kind)
		expectType(t, kind, want, map[bool]api.Errno{true: api.ErrWord}[want == 0])
	}
}

// TestTypeIsWhereItFits: just the states of a kind's type take it.
func TestTypeIsWhereItFits(t *testing.T) {
	for _, s := range states() {
		for _, kind := range kinds() {
			its, e := machine.Type(kind)
			_, _, err := machine.Apply(s, kind, 0, 0)
			if fits := e == api.OK && its == s.Type; fits != (err == api.OK) || !fits && err != api.ErrWord {
				t.Errorf("%v, %d: %v; its type is %d, %v", s, kind, err, its, e)
			}
		}
	}
}

// TestApply holds each kind once where it does something, and once where it can't.
func TestApply(t *testing.T) {
	for _, x := range []struct {
		s    api.State
		o    api.Op
		then api.State
	}{
		{tally(5), op(add, -7, ok()), tally(-2)}, {tally(greatest), op(add, 1, ok()), tally(least)}, {tally(-3), op(read, 0, told(-3)), tally(-3)},
		{of(sets, 1, 4), op(insert, 2, told(1)), of(sets, 1, 2, 4)}, {of(sets, 1, 4), op(insert, 4, told(0)), of(sets, 1, 4)},
		{of(sets, 1, 4), op(remove, 1, told(1)), of(sets, 4)}, {of(sets, 1, 4), op(remove, 2, told(0)), of(sets, 1, 4)},
		{of(sets, 1, 4), op(has, 4, told(1)), of(sets, 1, 4)}, {of(sets, 1, 4), op(has, 9, told(0)), of(sets, 1, 4)}, {of(sets, 1, 4), op(size, 0, told(2)), of(sets, 1, 4)},
		{of(maps, 1, 10), pair(put, 1, 11, told(10)), of(maps, 1, 11)}, {of(maps, 1, 10), pair(put, 0, 7, nothing()), of(maps, 0, 7, 1, 10)},
		{of(maps, 1, 10), op(get, 1, told(10)), of(maps, 1, 10)}, {of(maps, 1, 10), op(get, 2, nothing()), of(maps, 1, 10)},
		{of(maps, 1, 10), op(del, 1, told(10)), of(maps)}, {of(maps, 1, 10), op(del, 2, nothing()), of(maps, 1, 10)},
		{of(queues, 3, 1), op(enq, 3, ok()), of(queues, 3, 1, 3)}, {of(queues, 3, 1), op(deq, 0, told(3)), of(queues, 1)},
		{of(queues), op(deq, 0, nothing()), of(queues)}, {of(queues, 3, 1), op(length, 0, told(2)), of(queues, 3, 1)},
		{account(5), op(deposit, 3, told(1)), account(8)}, {account(most), op(deposit, 1, told(0)), account(most)},
		{account(5), op(withdraw, 5, told(1)), account(0)}, {account(5), op(withdraw, 6, told(0)), account(5)}, {account(5), op(balance, 0, told(5)), account(5)},
	} {
		expect(t, x.s, x.o.Kind, x.o.A, x.o.B, x.then, x.o.Ret, 0)
		expectLegal(t, x.s, x.o, x.then, true, 0)
		expectRun(t, x.s, []api.Op{x.o}, x.then, 1, 0)
		expectReturns(t, x.s, []api.Op{x.o}, 0, x.o.Ret)
	}
}

// TestArguments: what is not as said is refused, of each kind.
func TestArguments(t *testing.T) {
	for _, s := range states() {
		for kind := 1; kind <= 15; kind++ {
			for _, a := range edges() {
				for _, b := range edges() {
					if typeOf(kind) == s.Type && !allowed(kind, a, b) {
						refuse(t, s, kind, a, b, api.ErrArg)
					}
				}
			}
		}
	}
}

// TestTypeless: a type that is none goes ahead of a form that is none, of a kind that is none, and of arguments that are not as said.
func TestTypeless(t *testing.T) {
	for _, s := range typeless() {
		for _, kind := range kinds() {
			for _, a := range []int{0, 1, -1, most + 1, least, greatest} {
				for _, b := range []int{0, 1, least} {
					refuse(t, s, kind, a, b, api.ErrType)
				}
			}
		}
	}
}

// TestFormless: a form that is none goes ahead of a kind that is none, or of another type, and of arguments that are not as said.
func TestFormless(t *testing.T) {
	for _, s := range formless() {
		for _, kind := range kinds() {
			for _, a := range []int{0, 1, -1, most + 1, least, greatest} {
				for _, b := range []int{0, 1, least} {
					refuse(t, s, kind, a, b, api.ErrState)
				}
			}
		}
	}
}

// TestKinds: a kind that is none, or of another type, goes ahead of arguments that are not as said.
func TestKinds(t *testing.T) {
	for _, s := range states() {
		for _, kind := range kinds() {
			for _, a := range []int{0, 1, -1, most + 1, least, greatest} {
				for _, b := range []int{0, 1, least} {
					if typeOf(kind) != s.Type {
						refuse(t, s, kind, a, b, api.ErrWord)
					}
				}
			}
		}
	}
}

// TestEverywhere holds Apply against the type's own layer, and against the chapters' words, at all of these together, so that it ends and answers everywhere, each time the same.
func TestEverywhere(t *testing.T) {
	count := map[api.Errno]int{}
	for _, s := range all() {
		for _, kind := range kinds() {
			for _, a := range edges() {
				for _, b := range []int{0, 1, -1, least, greatest} {
					then, ret, err := own(s, kind, a, b)
					expect(t, s, kind, a, b, then, ret, err)
					then, ret, err = applied(s, kind, a, b)
					expect(t, s, kind, a, b, then, ret, err)
					count[err]++
				}
			}
		}
	}
	if len(count) != 5 {
		t.Error("the test itself is wrong:", count)
	}
	for err, n := range count {
		if n < 1000 {
			t.Error("the test itself is wrong:", err, n)
		}
	}
}
