package machine_test

import (
	"fmt"
	"slices"
	"testing"

	"armistice/api"
	"armistice/machine"
)

// P11.2: Legal and Run.

// others are returns that differ from one in the kind alone, in the number alone, or in both.
func others(ret api.Ret) []api.Ret {
	var out []api.Ret
	for _, kind := range []int{0, 1, 2, 3, -1, -2, ret.Kind + 256, ret.Kind + 1<<32, least, greatest} {
		for _, n := range []int{ret.N, ret.N + 1, ret.N - 1, -ret.N, 0, 1, ret.N + 256, ret.N + 1<<32, ret.N ^ least, least, greatest} {
			if r := (api.Ret{Kind: kind, N: n}); r != ret {
				out = append(out, r)
			}
		}
	}
	return out
}

// TestLegal: just the return that Apply tells is legal; the state is told all the same.
func TestLegal(t *testing.T) {
	count := map[int]int{}
	for _, s := range states() {
		for kind := 1; kind <= 15; kind++ {
			for _, a := range []int{least, -1, 0, 1, 2, most, greatest} {
				for _, b := range []int{0, 7} {
					then, ret, err := applied(s, kind, a, b)
					if err != 0 {
						continue
					}
					count[kind]++
					expectLegal(t, s, pair(kind, a, b, ret), then, true, 0)
					for _, r := range others(ret) {
						expectLegal(t, s, pair(kind, a, b, r), then, false, 0)
					}
				}
			}
		}
	}
	for kind := 1; kind <= 15; kind++ {
		if count[kind] < 5 {
			t.Error("the test itself is wrong:", kind, count[kind])
		}
	}
}

// TestNotLegal: where an operation can't be applied nothing is told beside the error, whatever was recorded: an error's empty return is not taken for that of an Add.
func TestNotLegal(t *testing.T) {
	rets := append(others(ok()), ok())
	count := map[api.Errno]int{}
	for _, s := range all() {
		for _, kind := range kinds() {
			for _, a := range []int{least, 0, most + 1} {
				for _, b := range []int{0, 7} {
					_, _, err := applied(s, kind, a, b)
					if err == 0 {
						continue
					}
					count[err]++
					for _, r := range rets[max(0, len(rets)-3):] {
						expectLegal(t, s, pair(kind, a, b, r), api.State{}, false, err)
					}
				}
			}
		}
	}
	for _, r := range rets {
		expectLegal(t, tally(1), pair(add, 1, 1, r), api.State{}, false, api.ErrArg)
		expectLegal(t, tally(1), op(enq, 1, r), api.State{}, false, api.ErrWord)
		expectLegal(t, account(-1), op(deposit, 1, r), api.State{}, false, api.ErrState)
		expectLegal(t, of(6), op(add, 1, r), api.State{}, false, api.ErrType)
	}
	if len(count) != 4 {
		t.Error("the test itself is wrong:", count)
	}
}

// TestRun: the first that can't be applied, or is not legal, ends it, with the state ahead of it.
func TestRun(t *testing.T) {
	for _, x := range []struct {
		s     api.State
		l     []api.Op
		then  api.State
		count int
		err   api.Errno
	}{
		{tally(1), []api.Op{op(add, 1, ok()), op(add, 1, ok()), op(read, 0, told(3))}, tally(3), 3, 0},
		{tally(1), []api.Op{pair(add, 1, 1, ok()), op(read, 0, told(1))}, tally(1), 0, 2},
		{tally(1), []api.Op{op(add, 1, ok()), op(read, 2, told(2)), op(read, 0, told(2))}, tally(2), 1, 2},
		{tally(1), []api.Op{op(add, 1, ok()), op(read, 0, told(2)), op(get, 0, told(2))}, tally(2), 2, 6},
		{tally(1), []api.Op{op(add, 1, nothing()), op(read, 0, told(2))}, tally(1), 0, 9},
		{tally(1), []api.Op{op(add, 1, ok()), op(add, 1, told(0)), op(read, 0, told(3))}, tally(2), 1, 9},
		{tally(1), []api.Op{op(add, 1, ok()), op(add, 1, ok()), op(read, 0, told(2))}, tally(3), 2, 9},
		{tally(1), []api.Op{op(read, 0, told(7)), op(enq, 0, ok())}, tally(1), 0, 9},
		{tally(1), []api.Op{op(enq, 0, ok()), op(read, 0, told(7))}, tally(1), 0, 6},
		{of(sets, 1), []api.Op{op(insert, 2, told(1)), op(insert, 2, told(0)), op(has, 2, told(1)), op(remove, 1, told(1)), op(size, 0, told(1))}, of(sets, 2), 5, 0},
		{of(sets, 1), []api.Op{op(insert, 2, told(1)), op(insert, 3, told(0)), op(has, 2, told(1))}, of(sets, 1, 2), 1, 9},
		{of(sets, 1), []api.Op{op(remove, 1, told(1)), op(16, 0, told(0))}, of(sets), 1, 6},
		{of(maps), []api.Op{pair(put, 1, 5, nothing()), pair(put, 1, 6, told(5)), op(get, 1, told(6)), op(del, 1, told(6)), op(del, 1, nothing())}, of(maps), 5, 0},
		{of(maps), []api.Op{pair(put, 1, 5, nothing()), pair(put, 1, 6, nothing())}, of(maps, 1, 5), 1, 9},
		{of(maps), []api.Op{pair(put, 1, 5, nothing()), pair(get, 1, 5, told(5))}, of(maps, 1, 5), 1, 2},
		{of(queues), []api.Op{op(enq, 4, ok()), op(enq, 5, ok()), op(deq, 0, told(4)), op(length, 0, told(1))}, of(queues, 5), 4, 0},
		{of(queues), []api.Op{op(enq, 4, ok()), op(enq, 5, ok()), op(deq, 0, told(5)), op(length, 0, told(1))}, of(queues, 4, 5), 2, 9},
		{of(queues, 1), []api.Op{op(deq, 0, told(1)), op(deq, 1, nothing())}, of(queues), 1, 2},
		{account(5), []api.Op{op(withdraw, 5, told(1)), op(withdraw, 1, told(0)), op(deposit, most, told(1)), op(deposit, 1, told(0)), op(balance, 0, told(most))}, account(most), 5, 0},
		{account(5), []api.Op{op(withdraw, 5, told(1)), op(withdraw, 1, told(1))}, account(0), 1, 9},
		{account(5), []api.Op{op(withdraw, 4, told(1)), op(deposit, -1, told(1))}, account(1), 1, 2},
	} {
		expectRun(t, x.s, x.l, x.then, x.count, x.err)
	}
}

// TestNoOperations: where there are none all are legal, whatever the state; it is told as it is.
func TestNoOperations(t *testing.T) {
	for _, s := range all() {
		for _, l := range [][]api.Op{nil, {}, make([]api.Op, 0, 5)} {
			expectRun(t, s, l, s, 0, 0)
			expectReturns(t, s, l, 0)
		}
	}
}

// TestRunNowhere: of a state that no operation can be applied to, that one is told, as it is.
func TestRunNowhere(t *testing.T) {
	for _, s := range slices.Concat(formless(), typeless()) {
		_, _, err := applied(s, 0, 0, 0)
		for _, kind := range kinds() {
			for _, l := range [][]api.Op{{op(kind, 0, ok())}, {op(kind, 0, told(0)), op(kind, 0, ok())}, {pair(kind, least, 1, ok())}} {
				expectRun(t, s, l, s, 0, err)
				expectReturns(t, s, l, err)
			}
		}
	}
}

// few are some operations for each type, by the types' numbers, with what is returned not told; the last ones of each can't be applied.
func few() [][]api.Op {
	return [][]api.Op{
		counters: {op(add, 1, ok()), op(add, -1, ok()), op(read, 0, ok()), op(read, 1, ok()), op(del, 0, ok())},
		sets:     {op(insert, 1, ok()), op(insert, 2, ok()), op(remove, 1, ok()), op(has, 2, ok()), op(size, 0, ok()), pair(has, 1, 1, ok()), op(0, 0, ok())},
		maps:     {pair(put, 1, 5, ok()), pair(put, 1, 6, ok()), pair(put, 2, 0, ok()), op(get, 1, ok()), op(del, 1, ok()), pair(del, 1, 5, ok()), op(enq, 1, ok())},
		queues:   {op(enq, 1, ok()), op(enq, 2, ok()), op(deq, 0, ok()), op(length, 0, ok()), op(deq, 1, ok()), op(balance, 0, ok())},
		accounts: {op(deposit, 2, ok()), op(deposit, most, ok()), op(withdraw, 3, ok()), op(balance, 0, ok()), op(withdraw, -1, ok()), op(16, 0, ok())},
	}
}

// firsts are some states from which these are done.
func firsts(kind int) []api.State {
	return [][]api.State{
		counters: {tally(0), tally(greatest)},
		sets:     {of(sets), of(sets, 1), of(sets, 0, 1, 2)},
		maps:     {of(maps), of(maps, 1, 5), of(maps, 1, 6, 2, 2)},
		queues:   {of(queues), of(queues, 2), of(queues, 1, 1)},
		accounts: {account(0), account(3), account(most)},
	}[kind]
}

// lists are all lists of these operations, of at most so many.
func lists(of []api.Op, most int) [][]api.Op {
	out := [][]api.Op{nil}
	for at := 0; at < len(out); at++ {
		if len(out[at]) == most {
			break
		}
		for _, o := range of {
			out = append(out, append(slices.Clone(out[at]), o))
		}
	}
	return out
}

// each hands on each of these lists, as it is recorded, with each of these states.
func each(most int, do func(s api.State, l []api.Op)) {
	for kind, l := range few() {
		for _, s := range firsts(kind) {
			for _, one := range lists(l, most) {
				do(s, recorded(s, one))
			}
		}
	}
}

// TestEachRun holds Run against the chapter's words at each of these lists, and with each return in turn another one.
func TestEachRun(t *testing.T) {
	count := map[api.Errno]int{}
	each(4, func(s api.State, l []api.Op) {
		want, n, err := ran(s, l)
		expectRun(t, s, l, want, n, err)
		count[err]++
		for at := range l {
			for _, r := range []api.Ret{{Kind: l[at].Ret.Kind, N: l[at].Ret.N + 1}, {Kind: l[at].Ret.Kind + 1, N: l[at].Ret.N}} {
				wrong := slices.Clone(l)
				wrong[at].Ret = r
				want, n, err := ran(s, wrong)
				expectRun(t, s, wrong, want, n, err)
				count[err]++
			}
		}
	})
	if len(count) != 4 || count[0] < 1000 || count[api.ErrArg] < 1000 || count[api.ErrWord] < 1000 || count[api.ErrReturn] < 1000 {
		t.Error("the test itself is wrong:", count)
	}
}

// TestRunInParts: to run one part, and then the other one at the state that was told, comes to what both at once do.
func TestRunInParts(t *testing.T) {
	each(4, func(s api.State, l []api.Op) {
		whole, count, err := machine.Run(s, l)
		for cut := range len(l) + 1 {
			then, n, e := machine.Run(s, l[:cut])
			if e == api.OK {
				if n != cut {
					t.Errorf("Run(%v, %v): %d were legal", s, l[:cut], n)
				}
				var more int
				then, more, e = machine.Run(then, l[cut:])
				n += more
			}
			if !like(then, whole) || n != count || e != err {
				t.Errorf("Run(%v, %v) parted at %d: %v, %d, %v; at once %v, %d, %v", s, l, cut, then, n, e, whole, count, err)
			}
		}
	})
}

// TestRunIsLegal: Run goes by Legal, one by one.
func TestRunIsLegal(t *testing.T) {
	each(4, func(s api.State, l []api.Op) {
		want, n, err := s, 0, api.OK
		for _, o := range l {
			then, is, e := machine.Legal(want, o)
			if e == api.OK && !is {
				e = api.ErrReturn
			}
			if err = e; err != api.OK {
				break
			}
			want, n = then, n+1
		}
		expectRun(t, s, l, want, n, err)
	})
}

// P11.3: Returns.

func TestReturns(t *testing.T) {
	for _, x := range []struct {
		s    api.State
		l    []api.Op
		err  api.Errno
		want []api.Ret
	}{
		{tally(1), []api.Op{op(read, 0, ok()), op(add, 2, told(9)), op(read, 0, nothing())}, 0, []api.Ret{told(1), ok(), told(3)}},
		{tally(1), []api.Op{op(read, 0, ok())}, 0, []api.Ret{told(1)}},
		{tally(1), []api.Op{op(read, 1, ok()), op(read, 0, ok()), op(read, 0, ok())}, 2, nil},
		{tally(1), []api.Op{op(read, 0, ok()), op(size, 0, ok()), op(read, 1, ok())}, 6, nil},
		{tally(1), []api.Op{op(read, 0, ok()), op(read, 1, ok()), op(size, 0, ok())}, 2, nil},
		{tally(1), []api.Op{op(read, 0, ok()), op(read, 0, ok()), op(16, 0, ok())}, 6, nil},
		{of(sets), []api.Op{op(insert, 1, ok()), op(insert, 1, ok()), op(has, 1, ok()), op(remove, 1, ok()), op(remove, 1, ok()), op(has, 1, ok()), op(size, 0, ok())}, 0, []api.Ret{told(1), told(0), told(1), told(1), told(0), told(0), told(0)}},
		{of(maps), []api.Op{pair(put, 1, 5, ok()), pair(put, 1, 6, ok()), op(get, 1, ok()), op(del, 1, ok()), op(get, 1, ok())}, 0, []api.Ret{nothing(), told(5), told(6), told(6), nothing()}},
		{of(queues, 3), []api.Op{op(enq, 4, ok()), op(length, 0, ok()), op(deq, 0, ok()), op(deq, 0, ok()), op(deq, 0, ok())}, 0, []api.Ret{ok(), told(2), told(3), told(4), nothing()}},
		{account(5), []api.Op{op(deposit, most, ok()), op(withdraw, 6, ok()), op(withdraw, 5, ok()), op(deposit, most, ok()), op(balance, 0, ok())}, 0, []api.Ret{told(0), told(0), told(1), told(1), told(most)}},
		{account(5), []api.Op{op(balance, 0, ok()), op(deposit, most+1, ok())}, 2, nil},
	} {
		expectReturns(t, x.s, x.l, x.err, x.want...)
	}
}

// TestEachReturns holds Returns against the chapter's words at each of these lists, whatever was recorded, and in two parts.
func TestEachReturns(t *testing.T) {
	count := map[api.Errno]int{}
	each(4, func(s api.State, l []api.Op) {
		want, err := returned(s, l)
		count[err]++
		expectReturns(t, s, l, err, want...)
		other := slices.Clone(l)
		for at := range other {
			rets := others(other[at].Ret)
			other[at].Ret = rets[(at*31+len(l))%len(rets)]
		}
		expectReturns(t, s, other, err, want...)
		if err != 0 {
			return
		}
		for cut := range len(l) + 1 {
			then, _, e := machine.Run(s, l[:cut])
			first, e1 := machine.Returns(s, other[:cut])
			second, e2 := machine.Returns(then, other[cut:])
			if e != api.OK || e1 != api.OK || e2 != api.OK || !slices.Equal(append(first, second...), want) {
				t.Errorf("Returns(%v, %v) parted at %d: %v, %v, %v, %v, %v; at once %v", s, l, cut, first, second, e, e1, e2, want)
			}
		}
	})
	if len(count) != 3 || count[0] < 1000 || count[api.ErrArg] < 1000 || count[api.ErrWord] < 1000 {
		t.Error("the test itself is wrong:", count)
	}
}

// TestWhere: what can't be applied, or is not legal, is found wherever it stands in a long list.
func TestWhere(t *testing.T) {
	const many = 1000
	l := make([]api.Op, many)
	for i := range l {
		l[i] = op(add, 1, ok())
	}
	for _, at := range []int{0, 1, 2, 7, many / 2, many - 2, many - 1} {
		for _, x := range []struct {
			o   api.Op
			err api.Errno
		}{{op(add, 1, nothing()), 9}, {op(read, 0, told(at+1)), 9}, {pair(add, 1, 1, nothing()), 2}, {op(17, 1, ok()), 6}} {
			wrong := slices.Clone(l)
			wrong[at] = x.o
			// What stands behind it is not looked at, and no error of that goes ahead.
			if at+1 < many {
				wrong[many-1] = op(0, 0, ok())
			}
			t.Run(fmt.Sprint(at, x.o), func(t *testing.T) {
				expectRun(t, tally(0), wrong, tally(at), at, x.err)
				if x.err != 9 {
					expectReturns(t, tally(0), wrong, x.err)
				}
			})
		}
	}
	expectRun(t, tally(0), l, tally(many), many, 0)
	expectReturns(t, tally(0), l, 0, make([]api.Ret, many)...)
}
