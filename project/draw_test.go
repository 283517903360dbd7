package project_test

import (
	"slices"
	"strconv"
	"strings"

	"armistice/api"
)

// drawer draws numbers that are the same in each run.
type drawer uint64

// below draws a number from 0 on that is less than n.
func (d *drawer) below(n int) int {
	*d = *d*6364136223846793005 + 1442695040888963407
	return int(uint64(*d)>>33) % n
}

func pick[T any](d *drawer, l []T) T { return l[d.below(len(l))] }

// anyNumber draws a number, also one of the edges.
func (d *drawer) anyNumber() int {
	return pick(d, []int{least, -most, -2, -1, 0, 1, 2, 3, 4, 7, 15, 16, 1000, most - 1, most, most + 1, greatest})
}

// amount draws a number that an account may hold.
func (d *drawer) amount() int { return pick(d, []int{0, 1, 2, 77, most - 1, most}) }

// name draws a name that the number makes the only one of its kind; those that are drawn do not come in order.
func (d *drawer) name(n int) string { return string(rune('a'+d.below(26))) + strconv.Itoa(n) }

// list draws a list of at most so many numbers.
func (d *drawer) list(n int) []int {
	l := make([]int, 0, n)
	for range d.below(n + 1) {
		l = append(l, d.below(100)-50)
	}
	return l
}

// state draws a state in its form.
func (d *drawer) state(kind int) api.State {
	s := api.State{Type: kind}
	switch kind {
	case 1:
		s.N = d.anyNumber()
	case 2:
		s.L = d.list(5)
		slices.Sort(s.L)
		s.L = slices.Compact(s.L)
	case 3:
		keys := d.list(3)
		slices.Sort(keys)
		for _, key := range slices.Compact(keys) {
			s.L = append(s.L, key, d.anyNumber())
		}
	case 4:
		s.L = d.list(5)
	case 5:
		s.N = d.amount()
	}
	return s
}

// op draws an operation of a kind that may be.
func (d *drawer) op(kind int) api.Op {
	o := api.Op{Kind: kind}
	switch kind {
	case 1, 3, 4, 5, 8, 9, 10:
		o.A = d.anyNumber()
	case 7:
		o.A, o.B = d.anyNumber(), d.anyNumber()
	case 13, 14:
		o.A = d.amount()
	}
	switch kind {
	case 2:
		o.Ret = told(d.anyNumber())
	case 3, 4, 5, 13, 14:
		o.Ret = told(d.below(2))
	case 6, 12, 15:
		o.Ret = told(d.amount())
	case 7, 8, 9, 11:
		o.Ret = pick(d, []api.Ret{{Kind: 1}, told(d.anyNumber())})
	}
	return o
}

// opAt draws an operation of an object's type.
func (d *drawer) opAt(kind int) api.Op {
	for {
		if k := 1 + d.below(15); typeOf(k) == kind {
			return d.op(k)
		}
	}
}

// history draws so many events at most, behind some objects, that are a history.
func (d *drawer) history(count int) []api.Event {
	var l []api.Event
	for n := range d.below(5) {
		l = append(l, object(d.name(n), d.state(1+d.below(5))))
	}
	there := slices.Clone(l)
	var running []string
	for n := range count {
		who := d.below(len(running) + 1)
		if who == len(running) || d.below(6) == 0 {
			running = append(running, d.name(n))
			l = append(l, begin(running[len(running)-1]))
			continue
		}
		switch name := running[who]; {
		case d.below(3) == 0:
			l = append(l, pick(d, []api.Event{commit(name), commit(name), abort(name)}))
			running = slices.Delete(running, who, who+1)
		case len(there) > 0:
			at := pick(d, there)
			l = append(l, api.Event{Kind: ops, Name: name, Object: at.Name, Op: d.opAt(at.First.Type)})
		}
	}
	return l
}

// wild draws an event, of which hardly anything need be as it should; of one out of two what its kind does not name is empty.
func (d *drawer) wild() api.Event {
	e := api.Event{
		Kind: d.below(8) - 1, Name: pick(d, []string{"t", "u", pick(d, strangers())}), Object: pick(d, []string{"t", pick(d, strangers())}),
		Op:    d.wildOp(),
		First: api.State{Type: d.below(8) - 1, N: d.anyNumber(), L: d.list(3)},
	}
	if d.below(2) == 0 {
		return e
	}
	if e.Kind != objects {
		e.First = api.State{}
	}
	if e.Kind != ops {
		e.Object, e.Op = "", api.Op{}
	}
	return e
}

func (d *drawer) wildOp() api.Op {
	return api.Op{Kind: d.anyNumber(), A: d.anyNumber(), B: d.anyNumber(), Ret: api.Ret{Kind: d.below(5) - 1, N: d.anyNumber()}}
}

// wildCase draws a case, of which hardly anything need be as it should.
func (d *drawer) wildCase() api.Case {
	var c api.Case
	for n := range d.below(4) {
		c.Names = append(c.Names, pick(d, []string{d.name(n), "a", pick(d, strangers())}))
	}
	for range pick(d, []int{len(c.Names), len(c.Names), len(c.Names), d.below(4)}) {
		c.First = append(c.First, pick(d, []api.State{d.state(1 + d.below(5)), {Type: d.below(8) - 1, N: d.anyNumber(), L: d.list(3)}}))
	}
	for n := range d.below(4) {
		t := api.Trans{Name: pick(d, []string{d.name(n), "a", pick(d, strangers())}), Begin: d.anyNumber(), Commit: d.anyNumber()}
		for range d.below(4) {
			t.Acts = append(t.Acts, api.Act{Object: pick(d, []int{0, 1, 2, d.anyNumber()}), Op: pick(d, []api.Op{d.op(1 + d.below(15)), d.wildOp()})})
		}
		for range pick(d, []int{len(t.Acts), len(t.Acts), d.below(4)}) {
			t.At = append(t.At, d.anyNumber())
		}
		if d.below(2) == 0 {
			slices.Sort(t.At)
		}
		c.Trans = append(c.Trans, t)
	}
	return c
}

// sparse draws a case that is the same, but for its places, whose order stays: they are drawn far apart.
func (d *drawer) sparse(c api.Case) api.Case {
	old := ordered(c)
	far := map[int]int{}
	for next, i := pick(d, []int{0, 1, 300, 1 << 40}), 0; i < len(old); i++ {
		far[old[i]] = next
		next += 1 + pick(d, []int{0, 0, 1, 5, 1000, 1 << 30, 1 << 50})
	}
	if len(old) > 0 && d.below(2) == 0 {
		far[old[len(old)-1]] = greatest
	}
	c = deepCase(c)
	for i := range c.Trans {
		t := &c.Trans[i]
		t.Begin, t.Commit = far[t.Begin], far[t.Commit]
		for k := range t.At {
			t.At[k] = far[t.At[k]]
		}
	}
	return c
}

// strangers are names, few of which stand anywhere here, and texts that are none.
func strangers() []string {
	return append([]string{"t", "nobody", "a_1", strings.Repeat("z", 32)}, noNames()...)
}

// noNames are texts that are no names.
func noNames() []string {
	return []string{"", "T", "_", "_a", "1", "1a", "a-b", " t", "t ", "a b", "t\n", "t\x00", "\xff", "\u00e4", "aB", strings.Repeat("t", 33), strings.Repeat("t", 1<<16)}
}
