package machine_test

import (
	"slices"
	"testing"

	"armistice/api"
	"armistice/machine"
	"armistice/state"
)

// P11.4: what follows.

// TestTotal: each operation of a state's type, with arguments that may be, can be applied, and leaves a state of that type, in its form.
func TestTotal(t *testing.T) {
	count := 0
	for _, s := range states() {
		for kind := 1; kind <= 15; kind++ {
			for _, a := range edges() {
				for _, b := range edges() {
					if typeOf(kind) != s.Type || !allowed(kind, a, b) {
						continue
					}
					count++
					then, ret, e := machine.Apply(s, kind, a, b)
					if e != api.OK || then.Type != s.Type || state.Check(then) != api.OK || !inForm(then) {
						t.Errorf("Apply(%v, %d, %d, %d): %v, %v, %v", s, kind, a, b, then, ret, e)
					}
				}
			}
		}
	}
	if count < 5000 {
		t.Error("the test itself is wrong:", count)
	}
}

// walk draws operations of a type, as they come, with arguments of at most so much, or 0 where there must be none.
func walk(kind, count, most int) []api.Op {
	var kinds []int
	for k := 1; k <= 15; k++ {
		if typeOf(k) == kind {
			kinds = append(kinds, k)
		}
	}
	l := make([]api.Op, count)
	which, a, b := numbers(count+99, 1<<40), numbers(count, most), numbers(count, 1<<60)
	for i := range l {
		l[i] = pair(kinds[(which[i+99]>>5)%len(kinds)], a[i], b[count-1-i], ok())
		if !allowed(l[i].Kind, l[i].A, l[i].B) {
			l[i].B = 0
		}
		if !allowed(l[i].Kind, l[i].A, 0) {
			l[i].A = 0
		}
	}
	return l
}

// walks hands on long lists of each type, as they are recorded, with a state that they are done from.
func walks(do func(s api.State, l []api.Op)) {
	for kind := counters; kind <= accounts; kind++ {
		tops := []int{1, 30}
		if kind == accounts {
			tops = append(tops, most)
		}
		for _, top := range tops {
			for _, s := range firsts(kind) {
				do(s, recorded(s, walk(kind, 3000, top)))
			}
		}
	}
}

// TestLongRuns: each step can be applied, leaves a state in its form, and is legal with just what it returns.
func TestLongRuns(t *testing.T) {
	walks(func(first api.State, l []api.Op) {
		s, seen := first, map[int]int{}
		for i, o := range l {
			then, ret, e := machine.Apply(s, o.Kind, o.A, o.B)
			if e != api.OK || then.Type != first.Type || state.Check(then) != api.OK || ret != o.Ret {
				t.Fatalf("%d, Apply(%.20v, %v): %.20v, %v, %v", i, s, o, then, ret, e)
			}
			expectLegal(t, s, o, then, true, 0)
			o.Ret.N++
			expectLegal(t, s, o, then, false, 0)
			o.Ret.N--
			o.Ret.Kind = (o.Ret.Kind + 1) % 3
			expectLegal(t, s, o, then, false, 0)
			seen[o.Kind]++
			s = then
		}
		want, count, err := ran(first, l)
		if !like(s, want) || count != len(l) || err != 0 {
			t.Errorf("%v: behind %d of %d: %.20v; want %.20v, %v", first, count, len(l), s, want, err)
		}
		for kind := 1; kind <= 15; kind++ {
			if typeOf(kind) == first.Type && seen[kind] < 100 {
				t.Error("the test itself is wrong:", kind, seen[kind])
			}
		}
	})
}

// TestRecorded: what is recorded as it is returned runs to its end; with one other return it stops just there.
func TestRecorded(t *testing.T) {
	walks(func(first api.State, l []api.Op) {
		bare := slices.Clone(l)
		for i := range bare {
			bare[i].Ret = api.Ret{Kind: 7, N: i}
		}
		rets, e := machine.Returns(first, bare)
		if e != api.OK || len(rets) != len(l) {
			t.Fatalf("Returns(%v): %d, %v", first, len(rets), e)
		}
		for i, ret := range rets {
			if bare[i].Ret = ret; bare[i] != l[i] {
				t.Fatalf("Returns(%v): %v at %d; want %v", first, ret, i, l[i])
			}
		}
		want, _, _ := ran(first, l)
		expectRun(t, first, bare, want, len(l), 0)
		for _, at := range []int{0, 1, 2, 100, len(l) / 2, len(l) - 1} {
			ahead, _, _ := ran(first, l[:at])
			wrong := slices.Clone(bare)
			wrong[at].Ret.N ^= 1
			expectRun(t, first, wrong, ahead, at, api.ErrReturn)
			wrong[at].Ret = api.Ret{Kind: bare[at].Ret.Kind ^ 1, N: bare[at].Ret.N}
			expectRun(t, first, wrong, ahead, at, api.ErrReturn)
		}
	})
}

// What is handed in, and what is answered.

// answer is what a call tells that has memory: a state's numbers, or returns.
type answer struct {
	l    []int
	rets []api.Ret
}

func (a answer) is(b answer) bool {
	return slices.Equal(a.l, b.l) && slices.Equal(a.rets, b.rets)
}

func (a answer) copy() answer { return answer{slices.Clone(a.l), slices.Clone(a.rets)} }

// bare tells whether the spare room of what is told holds nothing.
func (a answer) bare() bool {
	return !slices.ContainsFunc(a.l[len(a.l):cap(a.l)], func(n int) bool { return n != 0 }) &&
		!slices.ContainsFunc(a.rets[len(a.rets):cap(a.rets)], func(r api.Ret) bool { return r != api.Ret{} })
}

// mar writes over what is told, and its spare room.
func (a answer) mar() {
	marNumbers(a.l)
	for i := range a.rets[:cap(a.rets)] {
		a.rets[:cap(a.rets)][i] = api.Ret{Kind: 77, N: 77}
	}
}

func marNumbers(l []int) {
	for i := range l[:cap(l)] {
		l[:cap(l)][i] = 77
	}
}

// calls are all calls that have memory to tell, whatever comes of them.
func calls() map[string]func(api.State, []api.Op) answer {
	return map[string]func(api.State, []api.Op) answer{
		"Apply": func(s api.State, l []api.Op) answer {
			then, _, _ := machine.Apply(s, l[0].Kind, l[0].A, l[0].B)
			return answer{l: then.L}
		},
		"Legal": func(s api.State, l []api.Op) answer { then, _, _ := machine.Legal(s, l[0]); return answer{l: then.L} },
		"Run":   func(s api.State, l []api.Op) answer { then, _, _ := machine.Run(s, l); return answer{l: then.L} },
		"none":  func(s api.State, l []api.Op) answer { then, _, _ := machine.Run(s, l[:0]); return answer{l: then.L} },
		"Returns": func(s api.State, l []api.Op) answer {
			rets, _ := machine.Returns(s, l)
			return answer{rets: rets}
		},
		"no Returns": func(s api.State, l []api.Op) answer {
			rets, _ := machine.Returns(s, l[:0])
			return answer{rets: rets}
		},
	}
}

// given are states, in their form and not, and lists of operations: all legal, the last one not, the first one not, one that can't be applied.
func given() (l []api.State, ops map[int][][]api.Op) {
	ops = map[int][][]api.Op{}
	for kind, few := range few() {
		if kind == 0 {
			continue
		}
		for _, s := range firsts(kind) {
			l = append(l, s)
			for _, o := range few {
				one := recorded(s, []api.Op{few[0], o, few[0]})
				wrong := slices.Clone(one)
				wrong[0].Ret.N += 5
				ops[kind] = append(ops[kind], one, one[1:], one[:2], one[1:2], wrong)
			}
		}
	}
	l = append(l, of(sets, 2, 1), of(maps, 1, 2, 3), api.State{Type: queues, N: 1, L: []int{5}}, api.State{Type: accounts, L: []int{1, 2}}, of(counters, 3, 4), of(6, 3, 4), of(6), of(0, 1))
	ops[6], ops[0] = ops[sets], ops[queues]
	return l, ops
}

// roomy are a state and operations with room behind them that isn't theirs.
func roomy(s api.State, l []api.Op) (api.State, []int, []api.Op, []api.Op) {
	room := append(slices.Clone(s.L), 55, 66, 55, 44, 33)
	more := append(slices.Clone(l), op(read, 0, told(55)), op(size, 1, ok()))
	return api.State{Type: s.Type, N: s.N, L: room[:len(s.L)]}, room, more[:len(l)], more
}

// TestHandedIn: the state's list and the operations stay as they were, their spare room too, and what stands there is not looked at.
func TestHandedIn(t *testing.T) {
	firsts, ops := given()
	for _, s := range firsts {
		for _, l := range ops[s.Type] {
			with, room, in, more := roomy(s, l)
			keptRoom, kept := slices.Clone(room), slices.Clone(more)
			then, ret, err := applied(s, l[0].Kind, l[0].A, l[0].B)
			expect(t, with, l[0].Kind, l[0].A, l[0].B, then, ret, err)
			expectLegal(t, with, in[0], then, err == 0 && ret == l[0].Ret, err)
			stands, count, err := ran(s, l)
			expectRun(t, with, in, stands, count, err)
			rets, err := returned(s, l)
			expectReturns(t, with, in, err, rets...)
			expectRun(t, with, in[:0], s, 0, 0)
			if !slices.Equal(room, keptRoom) || !slices.Equal(more, kept) {
				t.Errorf("%v, %v: %v, %v has become of it", s, l, room, more)
			}
		}
	}
}

// TestNewMemory: to write into an answer, its spare room too, changes neither what was handed in nor another answer; nor the other way about.
func TestNewMemory(t *testing.T) {
	firsts, ops := given()
	for _, s := range firsts {
		for _, l := range ops[s.Type] {
			for name, call := range calls() {
				with, room, in, more := roomy(s, l)
				keptRoom, kept := slices.Clone(room), slices.Clone(more)
				first, second := call(with, in), call(with, in)
				want := second.copy()
				if !first.is(want) || !first.bare() {
					t.Errorf("%s of %v, %v: %v, and then %v", name, s, l, first, want)
				}
				first.mar()
				if !slices.Equal(room, keptRoom) || !slices.Equal(more, kept) || !second.is(want) || !call(with, in).is(want) {
					t.Errorf("%s of %v, %v: an answer is not new memory", name, s, l)
				}
				marNumbers(room)
				for i := range more {
					more[i] = pair(77, 77, 77, told(77))
				}
				if !second.is(want) {
					t.Errorf("%s of %v, %v: an answer hangs on what was handed in", name, s, l)
				}
			}
		}
	}
}

func FuzzMachine(f *testing.F) {
	f.Add(insert, 1, 0, 2, 0, sets, 0, 1, 2)
	f.Add(deq, 0, 0, 2, 3, queues, 0, 3, 3)
	f.Add(deposit, most, 0, 2, 1, accounts, 5, 0, 0)
	f.Add(put, 1, 5, 1, 0, maps, 0, 1, 6)
	f.Add(add, least, 0, 0, 0, counters, -1, 0, 0)
	f.Add(16, 0, 0, 0, 0, 6, 0, 0, 0)
	f.Fuzz(func(t *testing.T, kind, a, b, ret, n, object, has, u, v int) {
		want, e := typeOf(kind), api.OK
		if want == 0 {
			e = api.ErrWord
		}
		expectType(t, kind, want, e)
		o := pair(kind, a, b, api.Ret{Kind: ret, N: n})
		for count := range 3 {
			s := api.State{Type: object, N: has, L: []int{u, v}[:count]}
			then, r, err := applied(s, kind, a, b)
			expect(t, s, kind, a, b, then, r, err)
			expectLegal(t, s, o, then, err == 0 && r == o.Ret, err)
			for _, l := range lists([]api.Op{o, pair(kind, a, b, r), op(kind, u, r), op(kind%15+1, v, r)}, 3) {
				then, count, err := ran(s, l)
				expectRun(t, s, l, then, count, err)
				rets, err := returned(s, l)
				expectReturns(t, s, l, err, rets...)
			}
		}
	})
}
