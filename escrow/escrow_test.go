package escrow_test

import (
	"math"
	"math/big"
	"slices"
	"testing"

	"armistice/api"
	"armistice/escrow"
	"armistice/state"
)

// The calls must keep the chapter's signatures.
var (
	_ func(api.State, int, int, int) (api.State, api.Ret, api.Errno) = escrow.Apply
	_ func(int, int, int) (int, int, bool)                           = escrow.Range
	_ func(int) int                                                  = escrow.Room
)

// The greatest number, and the least; and how much an account holds at most.
const (
	greatest = math.MaxInt
	least    = math.MinInt
	most     = 1 << 62
)

// The kinds by the document's numbers, so that the tests hang on no name.
const (
	deposit  = 13
	withdraw = 14
	balance  = 15
)

func of(n int) api.State   { return api.State{Type: 5, N: n} }
func told(n int) api.Ret   { return api.Ret{Kind: 2, N: n} }
func isAccount(n int) bool { return 0 <= n && n <= most }

// accounts are numbers that an account may be, or an argument, about which something changes, rising.
func accounts() []int {
	return []int{0, 1, 2, 3, 5, 7, 100, 1<<31 - 1, 1 << 31, 1 << 32, 1<<61 - 1, 1 << 61, 1<<61 + 1, most - 100, most - 7, most - 5, most - 3, most - 2, most - 1, most}
}

// beyond are numbers that are no account's; some are, but for the bits above.
func beyond() []int {
	return []int{least, least + 1, least + 5, -most - 1, -most, -most + 1, -1 << 32, -5, -2, -1, most + 1, most + 2, most + 5, most + 1<<61, greatest - 1, greatest}
}

// edges are all of these, rising.
func edges() []int {
	l := append(beyond(), accounts()...)
	slices.Sort(l)
	return l
}

// numbers are many from 0 to top, the same ones each time.
func numbers(count, top int) []int {
	l := make([]int, count)
	x := uint64(88172645463325252)
	for i := range l {
		x ^= x << 13
		x ^= x >> 7
		x ^= x << 17
		l[i] = int(x>>1) % (top + 1)
	}
	return l
}

// sum is what two numbers come to, if that is an account's; it goes by way of numbers without an end.
func sum(x, y int) (int, bool) {
	z := new(big.Int).Add(big.NewInt(int64(x)), big.NewInt(int64(y)))
	if z.Sign() < 0 || z.Cmp(big.NewInt(most)) > 0 {
		return 0, false
	}
	return int(z.Int64()), true
}

// allowed tells whether an operation's arguments are as said.
func allowed(kind, a, b int) bool {
	if kind == balance {
		return a == 0 && b == 0
	}
	return isAccount(a) && b == 0
}

// applied is what Apply must answer, by the chapter's words in their order.
func applied(s api.State, kind, a, b int) (api.State, api.Ret, api.Errno) {
	switch {
	case s.Type != 5 || len(s.L) > 0 || !isAccount(s.N):
		return api.State{}, api.Ret{}, 12
	case kind < deposit || kind > balance:
		return api.State{}, api.Ret{}, 6
	case !allowed(kind, a, b):
		return api.State{}, api.Ret{}, 2
	case kind == balance:
		return of(s.N), told(s.N), 0
	case kind == withdraw:
		a = -a
	}
	if n, is := sum(s.N, a); is {
		return of(n), told(1), 0
	}
	return of(s.N), told(0), 0
}

// like tells whether two states are the same, by the test's own look.
func like(a, b api.State) bool {
	return a.Type == b.Type && a.N == b.N && slices.Equal(a.L, b.L)
}

func expect(t *testing.T, s api.State, kind, a, b int, want api.State, ret api.Ret, err api.Errno) {
	t.Helper()
	if then, r, e := escrow.Apply(s, kind, a, b); !like(then, want) || r != ret || e != err {
		t.Errorf("Apply(%.20v, %d, %d, %d): %v, %v, %v; want %v, %v, %v", s, kind, a, b, then, r, e, want, ret, err)
	}
}

// done is an operation that must be OK: want is what must be held then, and ret the number that must be returned.
func done(t *testing.T, n, kind, a, want, ret int) {
	t.Helper()
	expect(t, of(n), kind, a, 0, of(want), told(ret), 0)
}

func refuse(t *testing.T, s api.State, kind, a, b int, err api.Errno) {
	t.Helper()
	expect(t, s, kind, a, b, api.State{}, api.Ret{}, err)
}

func expectRange(t *testing.T, kind, a, ret, from, to int, is bool) {
	t.Helper()
	if f, u, i := escrow.Range(kind, a, ret); f != from || u != to || i != is {
		t.Errorf("Range(%d, %d, %d): %d to %d, %v; want %d to %d, %v", kind, a, ret, f, u, i, from, to, is)
	}
}

func expectRoom(t *testing.T, n, want int) {
	t.Helper()
	if room := escrow.Room(n); room != want {
		t.Errorf("Room(%d): %d; want %d", n, room, want)
	}
}

// apply is what is held then, and the number that was returned; the operation must be OK, and the answer an account in its form.
func apply(t *testing.T, n, kind, a int) (int, int) {
	t.Helper()
	s, ret, e := escrow.Apply(of(n), kind, a, 0)
	if e != api.OK || s.Type != 5 || len(s.L) != 0 || !isAccount(s.N) || state.Check(s) != api.OK || ret.Kind != 2 {
		t.Fatalf("Apply(%d, %d, %d, 0): %v, %v, %v", n, kind, a, s, ret, e)
	}
	return s.N, ret.N
}

// TestExamples holds the chapter's table.
func TestExamples(t *testing.T) {
	done(t, 5, deposit, 3, 8, 1)
	done(t, 1<<62, deposit, 1, 1<<62, 0)
	done(t, 5, withdraw, 5, 0, 1)
	done(t, 5, withdraw, 6, 5, 0)
	done(t, 5, balance, 0, 5, 5)
	refuse(t, of(5), deposit, -1, 0, api.ErrArg)
	refuse(t, of(5), balance, 1, 0, api.ErrArg)
	refuse(t, of(5), 11, 0, 0, api.ErrWord)
	refuse(t, of(-1), balance, 0, 0, api.ErrState)
	refuse(t, of(5), withdraw, 1<<62+1, 0, api.ErrArg)
	expectRange(t, deposit, 3, 1, 0, 1<<62-3, true)
	expectRange(t, deposit, 3, 0, 1<<62-2, 1<<62, true)
	expectRange(t, deposit, 0, 0, 0, 0, false)
	expectRange(t, withdraw, 3, 0, 0, 2, true)
	expectRange(t, withdraw, 3, 1, 3, 1<<62, true)
	expectRange(t, balance, 0, 7, 7, 7, true)
	expectRange(t, deposit, 3, 2, 0, 0, false)
	expectRoom(t, 5, 1<<62-5)
	expectRoom(t, 1<<62, 0)
	expectRoom(t, -1, 0)
	if api.Escrow != 5 || api.Cap != most || api.Deposit != deposit || api.Withdraw != withdraw || api.Balance != balance || api.RetNumber != 2 || api.ErrArg != 2 || api.ErrWord != 6 || api.ErrState != 12 {
		t.Error("the numbers are not the document's")
	}
}

// P10.1: Apply.

func TestDeposit(t *testing.T) {
	for _, x := range []struct{ n, a, want, ret int }{
		{0, 0, 0, 1}, {0, 1, 1, 1}, {0, 5, 5, 1}, {0, most - 1, most - 1, 1}, {0, most, most, 1},
		{1, 0, 1, 1}, {1, 1, 2, 1}, {1, most - 2, most - 1, 1}, {1, most - 1, most, 1}, {1, most, 1, 0},
		{2, most - 2, most, 1}, {2, most - 1, 2, 0}, {2, most, 2, 0},
		{1 << 61, 1 << 61, most, 1}, {1 << 61, 1<<61 - 1, most - 1, 1}, {1 << 61, 1<<61 + 1, 1 << 61, 0}, {1<<61 + 1, 1 << 61, 1<<61 + 1, 0}, {1<<61 - 1, 1<<61 + 1, most, 1},
		{1 << 31, 1 << 31, 1 << 32, 1}, {1<<32 - 1, 1, 1 << 32, 1},
		{most - 5, 4, most - 1, 1}, {most - 5, 5, most, 1}, {most - 5, 6, most - 5, 0}, {most - 5, most - 5, most - 5, 0},
		{most - 1, 0, most - 1, 1}, {most - 1, 1, most, 1}, {most - 1, 2, most - 1, 0}, {most - 1, most - 1, most - 1, 0}, {most - 1, most, most - 1, 0},
		{most, 0, most, 1}, {most, 1, most, 0}, {most, 2, most, 0}, {most, most - 1, most, 0}, {most, most, most, 0},
	} {
		done(t, x.n, deposit, x.a, x.want, x.ret)
	}
}

func TestWithdraw(t *testing.T) {
	for _, x := range []struct{ n, a, want, ret int }{
		{0, 0, 0, 1}, {0, 1, 0, 0}, {0, 5, 0, 0}, {0, most - 1, 0, 0}, {0, most, 0, 0},
		{1, 0, 1, 1}, {1, 1, 0, 1}, {1, 2, 1, 0}, {1, most - 1, 1, 0}, {1, most, 1, 0},
		{5, 4, 1, 1}, {5, 5, 0, 1}, {5, 6, 5, 0}, {1 << 32, 1, 1<<32 - 1, 1}, {1 << 32, 1 << 32, 0, 1}, {1 << 31, 1 << 32, 1 << 31, 0},
		{1 << 61, 1 << 61, 0, 1}, {1 << 61, 1<<61 + 1, 1 << 61, 0}, {1<<61 + 1, 1 << 61, 1, 1},
		{most - 1, 0, most - 1, 1}, {most - 1, 1, most - 2, 1}, {most - 1, most - 2, 1, 1}, {most - 1, most - 1, 0, 1}, {most - 1, most, most - 1, 0},
		{most, 0, most, 1}, {most, 1, most - 1, 1}, {most, most - 1, 1, 1}, {most, most, 0, 1},
	} {
		done(t, x.n, withdraw, x.a, x.want, x.ret)
	}
}

func TestBalance(t *testing.T) {
	for _, n := range append(accounts(), numbers(1000, most)...) {
		done(t, n, balance, 0, n, n)
	}
}

// TestArguments: a Deposit and a Withdraw use the first one alone, from 0 to the cap, and Balance none.
func TestArguments(t *testing.T) {
	for _, n := range accounts() {
		for _, x := range edges() {
			if !isAccount(x) {
				refuse(t, of(n), deposit, x, 0, api.ErrArg)
				refuse(t, of(n), withdraw, x, 0, api.ErrArg)
			}
			if x == 0 {
				continue
			}
			refuse(t, of(n), balance, x, 0, api.ErrArg)
			for _, y := range edges() {
				refuse(t, of(n), deposit, y, x, api.ErrArg)
				refuse(t, of(n), withdraw, y, x, api.ErrArg)
				refuse(t, of(n), balance, y, x, api.ErrArg)
			}
		}
	}
}

// noKinds are all kinds of other types, and numbers that are no kind; some are an account's, but for the bits above.
func noKinds() []int {
	l := []int{0, -1, 16, 17, 29, 30, 31, 255, 256, 269, 270, 271, 1<<16 + 13, 1<<32 + 13, 1<<32 + 15, least, least + 13, least + 15, greatest, greatest - 1}
	for kind := 1; kind <= 15; kind++ {
		l = append(l, -kind)
		if kind < deposit {
			l = append(l, kind)
		}
	}
	return l
}

// TestKinds: a kind that is none of these goes ahead of arguments that are wrong.
func TestKinds(t *testing.T) {
	for _, kind := range noKinds() {
		for _, n := range accounts() {
			for _, x := range []int{0, 1, -1, 4, most, most + 1, least, greatest} {
				for _, y := range []int{0, 1, -1, least, greatest} {
					refuse(t, of(n), kind, x, y, api.ErrWord)
				}
			}
		}
	}
}

// noAccounts are states of other types, in their form and not, of no type, and of an account what is not in its form.
func noAccounts() []api.State {
	var out []api.State
	for _, kind := range []int{0, 1, 2, 3, 4, 6, 7, -1, -5, 255, 256, 261, 1<<32 + 5, least, least + 5, greatest} {
		for _, n := range []int{0, 1, 5, -1, most, most + 1, least, greatest} {
			out = append(out, api.State{Type: kind, N: n})
		}
		for _, l := range [][]int{{}, {5}, {1, 2}, {1, 2, 3, 4}, {2, 1, 1, 2}, {3, 3}} {
			out = append(out, api.State{Type: kind, L: l})
		}
	}
	for _, n := range beyond() {
		out = append(out, of(n), api.State{Type: 5, N: n, L: []int{}}, api.State{Type: 5, N: n, L: []int{5}})
	}
	for _, n := range accounts() {
		for _, l := range [][]int{{0}, {n}, {1, 2}, {3, 3}, make([]int, 1000)} {
			out = append(out, api.State{Type: 5, N: n, L: l})
		}
	}
	return out
}

// TestStates: a state that is no account goes ahead of a kind that is none, and that ahead of arguments that are wrong.
func TestStates(t *testing.T) {
	for _, s := range noAccounts() {
		for _, kind := range append(noKinds(), deposit, withdraw, balance) {
			refuse(t, s, kind, 0, 0, api.ErrState)
			refuse(t, s, kind, 1, 0, api.ErrState)
			refuse(t, s, kind, 0, 1, api.ErrState)
			refuse(t, s, kind, -1, 0, api.ErrState)
			refuse(t, s, kind, least, greatest, api.ErrState)
		}
	}
}

// TestEverywhere holds Apply against the chapter's words at all of these together, so that it ends and answers everywhere, each time the same.
func TestEverywhere(t *testing.T) {
	states := noAccounts()
	for _, n := range accounts() {
		states = append(states, of(n), api.State{Type: 5, N: n, L: []int{}})
	}
	count := map[api.Errno]int{}
	for _, s := range states {
		for kind := -3; kind <= 18; kind++ {
			for _, x := range edges() {
				for _, y := range []int{0, 1, -1, least, greatest} {
					then, ret, err := applied(s, kind, x, y)
					count[err]++
					expect(t, s, kind, x, y, then, ret, err)
					expect(t, s, kind, x, y, then, ret, err)
				}
			}
		}
	}
	if len(count) != 4 || count[api.OK] < 1000 || count[api.ErrArg] < 1000 || count[api.ErrWord] < 1000 || count[api.ErrState] < 1000 {
		t.Error("the test itself is wrong:", count)
	}
}

// TestMany holds Apply against the chapter's words at numbers from all over, and about where something fits just so.
func TestMany(t *testing.T) {
	l := numbers(4000, most)
	for i, n := range l {
		for _, a := range []int{l[len(l)-1-i], n, n - 1, n + 1, most - n, most - n - 1, most - n + 1} {
			for _, kind := range []int{deposit, withdraw} {
				then, ret, err := applied(of(n), kind, a, 0)
				expect(t, of(n), kind, a, 0, then, ret, err)
			}
		}
	}
}

// P10.2: Range, Room.

func TestRangeOfDeposit(t *testing.T) {
	expectRange(t, deposit, 0, 1, 0, most, true)
	expectRange(t, deposit, 1, 1, 0, most-1, true)
	expectRange(t, deposit, 1, 0, most, most, true)
	expectRange(t, deposit, 5, 1, 0, most-5, true)
	expectRange(t, deposit, 5, 0, most-4, most, true)
	expectRange(t, deposit, 1<<61, 1, 0, 1<<61, true)
	expectRange(t, deposit, 1<<61, 0, 1<<61+1, most, true)
	expectRange(t, deposit, most-1, 1, 0, 1, true)
	expectRange(t, deposit, most-1, 0, 2, most, true)
	expectRange(t, deposit, most, 1, 0, 0, true)
	expectRange(t, deposit, most, 0, 1, most, true)
	expectRange(t, deposit, 0, 0, 0, 0, false)
}

func TestRangeOfWithdraw(t *testing.T) {
	expectRange(t, withdraw, 0, 1, 0, most, true)
	expectRange(t, withdraw, 1, 1, 1, most, true)
	expectRange(t, withdraw, 1, 0, 0, 0, true)
	expectRange(t, withdraw, 5, 1, 5, most, true)
	expectRange(t, withdraw, 5, 0, 0, 4, true)
	expectRange(t, withdraw, 1<<61, 1, 1<<61, most, true)
	expectRange(t, withdraw, 1<<61, 0, 0, 1<<61-1, true)
	expectRange(t, withdraw, most-1, 1, most-1, most, true)
	expectRange(t, withdraw, most-1, 0, 0, most-2, true)
	expectRange(t, withdraw, most, 1, most, most, true)
	expectRange(t, withdraw, most, 0, 0, most-1, true)
	expectRange(t, withdraw, 0, 0, 0, 0, false)
}

// TestRangeOfBalance: each account tells itself, and what is none is told by none, nor with an argument.
func TestRangeOfBalance(t *testing.T) {
	for _, n := range append(edges(), numbers(1000, most)...) {
		if isAccount(n) {
			expectRange(t, balance, 0, n, n, n, true)
		} else {
			expectRange(t, balance, 0, n, 0, 0, false)
		}
		for _, x := range edges() {
			if x != 0 {
				expectRange(t, balance, x, n, 0, 0, false)
			}
		}
	}
}

// TestNoRange: other returns than 0 and 1, arguments that are not as said, and what is no kind of an account's.
func TestNoRange(t *testing.T) {
	for _, kind := range []int{deposit, withdraw} {
		for _, x := range edges() {
			for _, ret := range append(edges(), 255, 256, 257, 1<<32+1, least+1) {
				if !isAccount(x) || ret != 0 && ret != 1 {
					expectRange(t, kind, x, ret, 0, 0, false)
				}
			}
		}
	}
	for _, kind := range noKinds() {
		for _, x := range edges() {
			for _, ret := range []int{0, 1, 2, 5, -1, most, most + 1, least, greatest} {
				expectRange(t, kind, x, ret, 0, 0, false)
			}
		}
	}
}

// points are accounts from one up to another one: these two, the ones next to them, and some in between.
func points(from, to int) []int {
	middle := from + (to-from)/2
	l := []int{from, to, middle, from + (middle-from)/2, middle + (to-middle)/2}
	for _, n := range []int{from + 1, from + 2, middle + 1, to - 2, to - 1} {
		if from <= n && n <= to {
			l = append(l, n)
		}
	}
	for _, n := range append(accounts(), numbers(50, most)...) {
		if from <= n && n <= to {
			l = append(l, n)
		}
	}
	return l
}

// within tells whether a range has an account.
func within(kind, a, ret, n int) bool {
	from, to, is := escrow.Range(kind, a, ret)
	return is && from <= n && n <= to
}

// expectReturns holds a range against what Apply returns: of accounts in it, at its ends, and next to them, and of any others.
func expectReturns(t *testing.T, kind, a, ret int) {
	t.Helper()
	l := points(0, most)
	from, to, is := escrow.Range(kind, a, ret)
	if is {
		if from > to || !isAccount(from) || !isAccount(to) {
			t.Fatalf("Range(%d, %d, %d): %d to %d", kind, a, ret, from, to)
		}
		l = append(l, points(from, to)...)
		for _, n := range []int{from - 2, from - 1, to + 1, to + 2} {
			if isAccount(n) {
				l = append(l, n)
			}
		}
	}
	for _, n := range l {
		in := is && from <= n && n <= to
		if _, got := apply(t, n, kind, a); (got == ret) != in {
			t.Errorf("Range(%d, %d, %d): %d to %d, %v; but %d returns %d", kind, a, ret, from, to, is, n, got)
		}
	}
}

// TestRangeIsApply: what Range tells is just where Apply returns that number.
func TestRangeIsApply(t *testing.T) {
	for _, a := range append(accounts(), numbers(300, most)...) {
		for _, ret := range []int{-1, 0, 1, 2, most, most + 1, least, greatest} {
			expectReturns(t, deposit, a, ret)
			expectReturns(t, withdraw, a, ret)
		}
	}
	for _, ret := range append(edges(), numbers(300, most)...) {
		expectReturns(t, balance, 0, ret)
	}
}

func TestRoom(t *testing.T) {
	expectRoom(t, 0, most)
	expectRoom(t, 1, most-1)
	expectRoom(t, 1<<61, 1<<61)
	expectRoom(t, 1<<61+1, 1<<61-1)
	expectRoom(t, most-5, 5)
	expectRoom(t, most-1, 1)
	expectRoom(t, most, 0)
	expectRoom(t, most+1, 0)
	expectRoom(t, least, 0)
	expectRoom(t, greatest, 0)
	for _, n := range beyond() {
		expectRoom(t, n, 0)
	}
}

// TestRoomIsTheMost: so much may be put in, and that fills the account; one more may not.
func TestRoomIsTheMost(t *testing.T) {
	for _, n := range append(accounts(), numbers(2000, most)...) {
		room := escrow.Room(n)
		done(t, n, deposit, room, most, 1)
		if room < most {
			done(t, n, deposit, room+1, n, 0)
		}
		if room > 0 {
			done(t, n, deposit, room-1, most-1, 1)
		}
		for _, a := range accounts() {
			if _, ret := apply(t, n, deposit, a); (ret == 1) != (a <= room) {
				t.Errorf("Room(%d) is %d, and Deposit %d returns %d", n, room, a, ret)
			}
		}
	}
}

// P10.3: what follows.

// TestTakenBack: where 0 is returned all stays; where 1 is, the other kind takes it back.
func TestTakenBack(t *testing.T) {
	l := append(accounts(), numbers(200, most)...)
	stayed, back := 0, 0
	for _, n := range l {
		for _, a := range append(l, n, most-n) {
			for _, kind := range []int{deposit, withdraw} {
				then, ret := apply(t, n, kind, a)
				if ret == 0 {
					stayed++
					if then != n {
						t.Errorf("kind %d, %d at %d: 0 is returned, and %d held", kind, a, n, then)
					}
					continue
				}
				back++
				if ret != 1 || (then == n) != (a == 0) {
					t.Errorf("kind %d, %d at %d: %d is returned, and %d held", kind, a, n, ret, then)
				}
				done(t, then, deposit+withdraw-kind, a, n, 1)
			}
		}
	}
	if stayed < 10000 || back < 10000 {
		t.Error("the test itself is wrong:", stayed, back)
	}
}

// TestOneReturn: of two returns' ranges no account is in both, and each is in one: that of the number which is returned there.
func TestOneReturn(t *testing.T) {
	l := append(accounts(), numbers(200, most)...)
	for _, a := range l {
		for _, kind := range []int{deposit, withdraw} {
			for _, n := range append(l, a, max(a-1, 0), most-a, min(most-a+1, most)) {
				_, got := apply(t, n, kind, a)
				if got != 0 && got != 1 {
					t.Errorf("kind %d, %d at %d returns %d", kind, a, n, got)
				}
				if !within(kind, a, got, n) || within(kind, a, 1-got, n) || within(kind, a, 2, n) || within(kind, a, -1, n) {
					t.Errorf("kind %d, %d at %d returns %d: in the range of 0: %v; of 1: %v", kind, a, n, got, within(kind, a, 0, n), within(kind, a, 1, n))
				}
			}
		}
	}
	for _, n := range l {
		for _, ret := range l {
			if in := within(balance, 0, ret, n); in != (ret == n) {
				t.Errorf("the range of a Balance that returns %d: %d is in it: %v", ret, n, in)
			}
		}
	}
}

// TestParted: the ranges of 0 and 1 together are all accounts, from 0 to the cap.
func TestParted(t *testing.T) {
	for _, a := range append(accounts(), numbers(1000, most)...) {
		from, to, some := escrow.Range(deposit, a, 0)
		first, last, is := escrow.Range(deposit, a, 1)
		if !is || first != 0 || some && (from != last+1 || to != most) || !some && last != most {
			t.Errorf("Deposit %d: %d to %d, %v, and %d to %d, %v", a, from, to, some, first, last, is)
		}
		from, to, some = escrow.Range(withdraw, a, 0)
		first, last, is = escrow.Range(withdraw, a, 1)
		if !is || last != most || some && (from != 0 || to+1 != first) || !some && first != 0 {
			t.Errorf("Withdraw %d: %d to %d, %v, and %d to %d, %v", a, from, to, some, first, last, is)
		}
	}
}

// TestLongRun: many operations one behind the other, against what is held by way of numbers without an end; an account stays from 0 to the cap, and comes to both.
func TestLongRun(t *testing.T) {
	for seed, top := range []int{3, 1 << 20, 1 << 58, 1 << 61, most} {
		amounts := numbers(30000, top)[seed:]
		for _, start := range []int{0, 1, most / 2, most - 1, most} {
			kept, low, high, refused := start, 0, 0, 0
			for i, a := range amounts {
				kind := []int{deposit, withdraw, withdraw, deposit, balance}[a>>1%5]
				switch {
				case kind == balance:
					a = 0
				case i%1000 == 998:
					kind, a = deposit, most-kept
				case i%1000 == 499:
					kind, a = withdraw, kept
				}
				want, ret, err := applied(of(kept), kind, a, 0)
				expect(t, of(kept), kind, a, 0, want, ret, err)
				kept, _ = apply(t, kept, kind, a)
				switch {
				case ret.N == 0 && kind != balance:
					refused++
				case kept == 0:
					low++
				case kept == most:
					high++
				}
			}
			if low < 10 || high < 10 || refused < 10 {
				t.Error("the test itself is wrong:", top, start, low, high, refused)
			}
		}
	}
}

// What is handed in, and what is answered.

// TestHandedIn: the list of an account is empty; its spare room stays as it was, is not looked at, and is not handed out.
func TestHandedIn(t *testing.T) {
	room := []int{55, 66, 55}
	for _, n := range accounts() {
		for kind := deposit; kind <= balance; kind++ {
			for _, a := range []int{0, 1, most, most + 1, -1} {
				s := api.State{Type: 5, N: n, L: room[:0]}
				want, ret, err := applied(of(n), kind, a, 0)
				expect(t, s, kind, a, 0, want, ret, err)
				then, _, _ := escrow.Apply(s, kind, a, 0)
				if cap(then.L) != 0 {
					t.Errorf("Apply(%d, %d, %d): a list with room for %d", n, kind, a, cap(then.L))
				}
				expect(t, s, kind, a, 0, want, ret, err)
				if s.Type != 5 || s.N != n || len(s.L) != 0 {
					t.Errorf("Apply(%d, %d, %d): %v has become of it", n, kind, a, s)
				}
			}
			refuse(t, api.State{Type: 5, N: n, L: room[:2]}, kind, 0, 0, api.ErrState)
			refuse(t, api.State{Type: 5, N: -1, L: room[:0]}, kind, 0, 0, api.ErrState)
			refuse(t, api.State{Type: 4, L: room}, kind, 0, 0, api.ErrState)
		}
		refuse(t, api.State{Type: 5, N: n, L: room[:0]}, 1, 0, 0, api.ErrWord)
	}
	if !slices.Equal(room, []int{55, 66, 55}) {
		t.Errorf("%v has become of what was handed in", room)
	}
}

func FuzzEscrow(f *testing.F) {
	f.Add(13, 3, 0, 5, 1, 5, 0)
	f.Add(14, most, 0, most, 0, 5, 0)
	f.Add(15, 0, 0, 7, 7, 5, 0)
	f.Add(13, most, 1, most, 1, 2, 1)
	f.Add(14, least, greatest, most+1, -1, 5, 0)
	f.Fuzz(func(t *testing.T, kind, a, b, n, ret, object, count int) {
		s := api.State{Type: object, N: n, L: make([]int, count&3)}
		then, r, err := applied(s, kind, a, b)
		expect(t, s, kind, a, b, then, r, err)
		if isAccount(n) {
			expectRoom(t, n, most-n)
		} else {
			expectRoom(t, n, 0)
		}
		if kind < deposit || kind > balance || !allowed(kind, a, 0) {
			expectRange(t, kind, a, ret, 0, 0, false)
			return
		}
		expectReturns(t, kind, a, ret)
		if isAccount(n) {
			_, r, _ := applied(of(n), kind, a, 0)
			expectReturns(t, kind, a, r.N)
		}
	})
}
