package machine_test

import (
	"math"
	"slices"

	"armistice/api"
)

// The greatest number, and the least; and how much an account holds at most.
const (
	greatest = math.MaxInt
	least    = math.MinInt
	most     = 1 << 62
)

// The types and the kinds by the document's numbers, so that the tests hang on no name.
const (
	counters, sets, maps, queues, accounts = 1, 2, 3, 4, 5

	add, read                 = 1, 2
	insert, remove, has, size = 3, 4, 5, 6
	put, get, del             = 7, 8, 9
	enq, deq, length          = 10, 11, 12
	deposit, withdraw         = 13, 14
	balance                   = 15
)

func ok() api.Ret         { return api.Ret{} }
func nothing() api.Ret    { return api.Ret{Kind: 1} }
func told(n int) api.Ret  { return api.Ret{Kind: 2, N: n} }
func bit(is bool) api.Ret { return told(map[bool]int{true: 1}[is]) }

func of(kind int, l ...int) api.State { return api.State{Type: kind, L: l} }
func tally(n int) api.State           { return api.State{Type: counters, N: n} }
func account(n int) api.State         { return api.State{Type: accounts, N: n} }
func isAccount(n int) bool            { return 0 <= n && n <= most }

// op is an operation with one argument; pair one with two.
func op(kind, a int, ret api.Ret) api.Op      { return api.Op{Kind: kind, A: a, Ret: ret} }
func pair(kind, a, b int, ret api.Ret) api.Op { return api.Op{Kind: kind, A: a, B: b, Ret: ret} }

// typeOf is whose kind an operation is; 0, if it is of no type.
func typeOf(kind int) int {
	if kind < 1 || kind > 15 {
		return 0
	}
	return int(" 112222333444555"[kind] - '0')
}

// inForm tells whether a state of one of the five types is in its form.
func inForm(s api.State) bool {
	step := 1
	switch s.Type {
	case counters:
		return len(s.L) == 0
	case accounts:
		return len(s.L) == 0 && isAccount(s.N)
	case queues:
		return s.N == 0
	case maps:
		step = 2
	}
	for i := step; i < len(s.L); i++ {
		if i%step == 0 && s.L[i-step] >= s.L[i] {
			return false
		}
	}
	return s.N == 0 && len(s.L)%step == 0
}

// allowed tells whether a kind's arguments are as said.
func allowed(kind, a, b int) bool {
	switch kind {
	case put:
		return true
	case read, size, deq, length, balance:
		return a == 0 && b == 0
	case deposit, withdraw:
		return isAccount(a) && b == 0
	}
	return b == 0
}

// applied is what Apply must answer, by the chapters' words in their order.
func applied(s api.State, kind, a, b int) (api.State, api.Ret, api.Errno) {
	switch {
	case s.Type < 1 || s.Type > 5:
		return api.State{}, api.Ret{}, 8
	case !inForm(s):
		return api.State{}, api.Ret{}, 12
	case typeOf(kind) != s.Type:
		return api.State{}, api.Ret{}, 6
	case !allowed(kind, a, b):
		return api.State{}, api.Ret{}, 2
	}
	then := api.State{Type: s.Type, N: s.N, L: slices.Clone(s.L)}
	var ret api.Ret
	switch s.Type {
	case counters, accounts:
		ret = ofNumber(&then, kind, a)
	case sets:
		ret = ofSet(&then, kind, a)
	case maps:
		ret = ofMap(&then, kind, a, b)
	case queues:
		ret = ofQueue(&then, kind, a)
	}
	return then, ret, 0
}

func ofNumber(s *api.State, kind, a int) api.Ret {
	switch kind {
	case add:
		s.N += a
		return ok()
	case deposit:
		// Each is at most 2^62, so that the sum is a number, but for that of two of these.
		fits := a != most || s.N != most
		if fits = fits && s.N+a <= most; fits {
			s.N += a
		}
		return bit(fits)
	case withdraw:
		fits := s.N-a >= 0
		if fits {
			s.N -= a
		}
		return bit(fits)
	}
	return told(s.N)
}

func ofSet(s *api.State, kind, a int) api.Ret {
	there := slices.Contains(s.L, a)
	switch kind {
	case insert:
		if !there {
			s.L = append(s.L, a)
			slices.Sort(s.L)
		}
		return bit(!there)
	case remove:
		s.L = slices.DeleteFunc(s.L, func(x int) bool { return x == a })
		return bit(there)
	case has:
		return bit(there)
	}
	return told(len(s.L))
}

func ofMap(s *api.State, kind, a, b int) api.Ret {
	values := map[int]int{}
	for i := 0; i < len(s.L); i += 2 {
		values[s.L[i]] = s.L[i+1]
	}
	ret := nothing()
	if v, there := values[a]; there {
		ret = told(v)
	}
	switch kind {
	case put:
		values[a] = b
	case del:
		delete(values, a)
	}
	var keys []int
	for k := range values {
		keys = append(keys, k)
	}
	slices.Sort(keys)
	s.L = s.L[:0]
	for _, k := range keys {
		s.L = append(s.L, k, values[k])
	}
	return ret
}

func ofQueue(s *api.State, kind, a int) api.Ret {
	switch {
	case kind == enq:
		s.L = append(s.L, a)
		return ok()
	case kind == length:
		return told(len(s.L))
	case len(s.L) == 0:
		return nothing()
	}
	first := s.L[0]
	s.L = s.L[1:]
	return told(first)
}

// ran is what Run must answer.
func ran(s api.State, l []api.Op) (api.State, int, api.Errno) {
	for i, o := range l {
		then, ret, err := applied(s, o.Kind, o.A, o.B)
		if err != 0 {
			return s, i, err
		}
		if ret != o.Ret {
			return s, i, 9
		}
		s = then
	}
	return s, len(l), 0
}

// returned is what Returns must answer.
func returned(s api.State, l []api.Op) ([]api.Ret, api.Errno) {
	var out []api.Ret
	for _, o := range l {
		then, ret, err := applied(s, o.Kind, o.A, o.B)
		if err != 0 {
			return nil, err
		}
		out = append(out, ret)
		s = then
	}
	return out, 0
}

// recorded are the same operations, each with what it returns, from the first one up to that which can't be applied; others of these stay as they are.
func recorded(s api.State, l []api.Op) []api.Op {
	out := slices.Clone(l)
	for i, o := range l {
		then, ret, err := applied(s, o.Kind, o.A, o.B)
		if err != 0 {
			break
		}
		out[i].Ret = ret
		s = then
	}
	return out
}

// edges are numbers about which something changes.
func edges() []int {
	return []int{least, least + 1, -most - 1, -most, -1 << 32, -2, -1, 0, 1, 2, 3, 5, 7, 1 << 31, 1 << 32, most - 1, most, most + 1, greatest - 1, greatest}
}

// states are some of all five types, in their form.
func states() []api.State {
	var out []api.State
	for _, n := range edges() {
		out = append(out, tally(n), api.State{Type: counters, N: n, L: []int{}})
		if isAccount(n) {
			out = append(out, account(n), api.State{Type: accounts, N: n, L: []int{}})
		}
	}
	for _, kind := range []int{sets, maps, queues} {
		out = append(out, of(kind), of(kind, []int{}...), of(kind, 1, 2), of(kind, 1, 1<<31, 2, least), of(kind, least, 0, greatest, 0))
	}
	out = append(out, of(sets, 1), of(sets, least), of(sets, -2, -1, 0, 1, 2), of(queues, 3), of(queues, 3, 3, 3), of(queues, greatest, least, greatest))
	out = append(out, of(maps, -1, 7, 0, 7, 1, 7), of(maps, 5, greatest), of(maps, least, least))
	return slices.DeleteFunc(out, func(s api.State) bool { return !inForm(s) })
}

// formless are states of all five types that are not in their form.
func formless() []api.State {
	var out []api.State
	for _, n := range edges() {
		for _, kind := range []int{counters, accounts} {
			out = append(out, api.State{Type: kind, N: n, L: []int{0}}, api.State{Type: kind, N: n, L: []int{n, 1, 2}})
		}
		for _, kind := range []int{sets, maps, queues, accounts} {
			out = append(out, api.State{Type: kind, N: n}, api.State{Type: kind, N: n, L: []int{1, 2}})
		}
	}
	out = append(out, of(sets, 1, 1), of(sets, 2, 1), of(sets, 1, 3, 2), of(sets, greatest, least), of(sets, 1, 2, 2))
	out = append(out, of(maps, 1), of(maps, 1, 2, 3), of(maps, 1, 2, 1, 3), of(maps, 2, 1, 1, 2), of(maps, greatest, 0, least, 0))
	return slices.DeleteFunc(out, inForm)
}

// typeless are states of no type; some are of one, but for the bits above.
func typeless() []api.State {
	var out []api.State
	for _, kind := range []int{0, 6, 7, 15, -1, -2, -5, 255, 256, 257, 1<<32 + 1, 1<<32 + 5, least, least + 1, least + 5, greatest, greatest - 1} {
		out = append(out, of(kind), of(kind, 1, 2), of(kind, 2, 1), of(kind, 1))
		for _, n := range []int{1, 5, -1, most, least, greatest} {
			out = append(out, api.State{Type: kind, N: n}, api.State{Type: kind, N: n, L: []int{3, 4}})
		}
	}
	return out
}

// all are all of these states.
func all() []api.State { return slices.Concat(states(), formless(), typeless()) }

// noKinds are numbers that are no kind; some are one, but for the bits above.
func noKinds() []int {
	return []int{0, -1, -2, -15, 16, 17, 31, 255, 256, 257, 271, 1<<16 + 1, 1<<32 + 1, 1<<32 + 15, least, least + 1, least + 15, greatest, greatest - 1}
}

// kinds are the 15, and these.
func kinds() []int {
	out := noKinds()
	for kind := 1; kind <= 15; kind++ {
		out = append(out, kind)
	}
	return out
}

// numbers are many from 0 to top, the same ones each time.
func numbers(count, top int) []int {
	l := make([]int, count)
	x := uint64(88172645463325252)
	for i := range l {
		x ^= x << 13
		x ^= x >> 7
		x ^= x << 17
		l[i] = int(x>>1) % (top + 1)
	}
	return l
}
