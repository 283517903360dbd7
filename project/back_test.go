package project_test

import (
	"slices"
	"strconv"
	"testing"

	"armistice/api"
	"armistice/project"
)

// P14.3: Dense, Back and Size. (That Dense and Back answer just Check's error, and nothing beside it, is held wherever a case may not be: reject.)

// placesOf tells the places of each transaction, in the order in which they rise.
func placesOf(c api.Case) [][]int {
	var l [][]int
	for _, x := range c.Trans {
		l = append(l, spread(x))
	}
	return l
}

// placed is a case of some objects, and of transactions that have these places.
func placed(objects int, places ...[]int) api.Case {
	var c api.Case
	for n := range objects {
		c.Names, c.First = append(c.Names, "o"+strconv.Itoa(n)), append(c.First, first(1))
	}
	for n, l := range places {
		c.Trans = append(c.Trans, api.Trans{Name: "t" + strconv.Itoa(n), Begin: l[0], Commit: l[len(l)-1], At: l[1 : len(l)-1], Acts: slices.Repeat([]api.Act{act(0, 1)}, len(l)-2)})
	}
	return c
}

// TestDense: each place becomes how many are less than it, and how many objects there are; nothing else does.
func TestDense(t *testing.T) {
	for _, x := range []struct {
		c    api.Case
		want [][]int
	}{
		{wholeCase(), [][]int{{5, 8, 11, 13, 16}, {6, 7, 9}, {10, 12}, {14, 15, 17}}},
		{rooms(), [][]int{{5, 6, 11, 14, 16}, {7, 8, 9, 10}, {12, 15}, {13, 17, 18}}},
		{placed(0, []int{0, 1}), [][]int{{0, 1}}},
		{placed(0, []int{7, 9}), [][]int{{0, 1}}},
		{placed(3, []int{7, 9}), [][]int{{3, 4}}},
		// Objects may be more than the places that are below the first one.
		{placed(3, []int{0, 1}), [][]int{{3, 4}}},
		{placed(3, []int{1, 2, 7}, []int{3, 5}), [][]int{{3, 4, 7}, {5, 6}}},
		{placed(1, []int{0, greatest}), [][]int{{1, 2}}},
		{placed(1, []int{greatest - 1, greatest}), [][]int{{1, 2}}},
		{placed(2, []int{0, most, greatest}, []int{1, most + 1, greatest - 1}), [][]int{{2, 4, 7}, {3, 5, 6}}},
		{placed(2, []int{1 << 31, 1 << 32, 1 << 40, 1 << 62}, []int{1<<32 - 1, 1<<32 + 1}), [][]int{{2, 4, 6, 7}, {3, 5}}},
		{placed(256, []int{0, 1, 4}, []int{2, 3, greatest}), [][]int{{256, 257, 260}, {258, 259, 261}}},
	} {
		d, err := project.Dense(x.c)
		if err != api.OK || !slices.EqualFunc(placesOf(d), x.want, slices.Equal) {
			t.Errorf("Dense(%s): %s, %v; want %v", show(x.c), show(d), err, x.want)
		}
		accept(t, x.c)
		accept(t, d)
	}
}

// isDense tells whether a case's places are, in order, from how many objects it has on, one more each.
func isDense(c api.Case) bool {
	for n, place := range ordered(c) {
		if place != len(c.Names)+n {
			return false
		}
	}
	return true
}

// TestDenseAlready: a dense case stays as it is; one that is made dense is dense, and its places keep their order.
func TestDenseAlready(t *testing.T) {
	for _, c := range []api.Case{{}, placed(0, []int{0, 1}), placed(3, []int{3, 4, 7}, []int{5, 6, 8}), placed(1, []int{1, 5}, []int{2, 3, 4}), placed(256), placed(2, []int{2, 3}, []int{4, 5}, []int{6, 7})} {
		if !isDense(c) {
			t.Error("the test itself is wrong:", show(c))
		}
		if d, err := project.Dense(c); err != api.OK || !alike(d, c) {
			t.Errorf("Dense(%s): %s, %v", show(c), show(d), err)
		}
	}
	d := drawer(5)
	for range 2000 {
		c := asked(d.history(d.below(60)))
		if d.below(3) > 0 {
			c = d.sparse(c)
		}
		x, err := project.Dense(c)
		if err != api.OK || !isDense(x) || isDense(c) != alike(x, c) {
			t.Errorf("Dense(%s): %s, %v", show(c), show(x), err)
		}
		if again, err := project.Dense(x); err != api.OK || !alike(again, x) {
			t.Errorf("Dense(%s): %s, %v", show(x), show(again), err)
		}
		expectOrder(t, c, x)
	}
}

// expectOrder holds that two cases have the same order of places, and all else alike.
func expectOrder(t testing.TB, a, b api.Case) {
	t.Helper()
	before, after := slices.Concat(placesOf(a)...), slices.Concat(placesOf(b)...)
	if len(before) != len(after) {
		t.Fatalf("%s has become %s", show(a), show(b))
	}
	by := func(l []int) []int {
		order := make([]int, len(l))
		for i := range order {
			order[i] = i
		}
		slices.SortFunc(order, func(i, k int) int { return l[i] - l[k] })
		return order
	}
	if !slices.Equal(by(before), by(after)) {
		t.Errorf("the places of %s have become those of %s", show(a), show(b))
	}
	a, b = deepCase(a), deepCase(b)
	for _, c := range []api.Case{a, b} {
		for i := range c.Trans {
			c.Trans[i].Begin, c.Trans[i].Commit, c.Trans[i].At = 0, 0, nil
		}
	}
	if !alike(a, b) {
		t.Errorf("beside the places %s has become %s", show(a), show(b))
	}
}

// TestBack: the objects' events, and then, place by place, what stands there.
func TestBack(t *testing.T) {
	for _, x := range []struct {
		c    api.Case
		want string
	}{
		{wholeCase(), world() + "; begin t; begin u; op u s insert 3 -> 1; op t c add 1 -> ok; commit u; begin c; op t q deq -> 7; commit c; op t e withdraw 2 -> 1; begin w; op w c read -> 6; commit t; commit w"},
		{rooms(), world() + "; begin t; op t c read -> 1; begin u; op u m put 0 0 -> 1; op u e deposit 0 -> 1; commit u; op t s insert 0 -> 1; begin c; begin v; op t q deq -> 1; commit c; commit t; op v s size -> 1; commit v"},
		{placed(1), "object o0 counter 0"},
		{placed(2), "object o0 counter 0; object o1 counter 0"},
		{placed(0, []int{0, 1}), "begin t0; commit t0"},
		{placed(0, []int{7, greatest}), "begin t0; commit t0"},
		{placed(1, []int{0, 5, 9}, []int{1, 3, 7}), "object o0 counter 0; begin t0; begin t1; op t1 o0 add 0 -> ok; op t0 o0 add 0 -> ok; commit t1; commit t0"},
		{placed(1, []int{0, 5, 7}, []int{1, 3, 9}), "object o0 counter 0; begin t0; begin t1; op t1 o0 add 0 -> ok; op t0 o0 add 0 -> ok; commit t0; commit t1"},
		{placed(1, []int{0, 1, 2}, []int{3, 4, 5}), "object o0 counter 0; begin t0; op t0 o0 add 0 -> ok; commit t0; begin t1; op t1 o0 add 0 -> ok; commit t1"},
	} {
		if l, err := project.Back(x.c); err != api.OK || !alikeEvents(l, events(t, x.want)) {
			t.Errorf("Back(%s): %s, %v; want %s", show(x.c), text(l), err, x.want)
		}
		accept(t, x.c)
	}
	if l, err := project.Back(api.Case{}); err != api.OK || len(l) != 0 {
		t.Error(text(l), err)
	}
}

// TestBackObjects: objects come in their order, each in its first state, and an operation has the name of the object whose number it has.
func TestBackObjects(t *testing.T) {
	c := api.Case{Names: []string{"z", "a", "t", "b"}, First: []api.State{first(4, 3, 1), {Type: 5, N: most}, first(2, -5, 3), first(3, 1, -10)}, Trans: []api.Trans{{Name: "t", Begin: 1, Commit: 8, At: []int{2, 3, 5, 7}, Acts: []api.Act{act(3, 8), act(0, 11), act(2, 5), act(1, 15)}}}}
	accept(t, c)
	if l, err := project.Back(c); err != api.OK || !alikeEvents(l, events(t, "object z queue 3 1; object a escrow 4611686018427387904; object t set -5 3; object b map 1 -10; begin t; op t b get 0 -> 1; op t z deq -> 1; op t t has 0 -> 1; op t a balance -> 1; commit t")) {
		t.Error(text(l), err)
	}
}

// TestBackKinds: an operation of each kind comes back as it was.
func TestBackKinds(t *testing.T) {
	d := drawer(6)
	for kind := 1; kind <= 15; kind++ {
		for range 20 {
			o := d.op(kind)
			c := rooms()
			c.Trans[3].Acts[0] = api.Act{Object: typeOf(kind) - 1, Op: o}
			l, err := project.Back(c)
			if err != api.OK || l[len(l)-2].Op != o || l[len(l)-2].Object != c.Names[typeOf(kind)-1] {
				t.Errorf("Back(%s): %s, %v", show(c), text(l), err)
			}
			accept(t, c)
		}
	}
}

// TestSize: of whatever case, how many transactions it has, and how many operations in all.
func TestSize(t *testing.T) {
	acts := make([]api.Act, maxOps)
	for _, x := range []struct {
		c           api.Case
		trans, acts int
	}{
		{api.Case{}, 0, 0}, {api.Case{Names: []string{"a", "b"}, First: []api.State{{}}}, 0, 0}, {api.Case{Trans: []api.Trans{}}, 0, 0}, {wholeCase(), 4, 5}, {rooms(), 4, 6},
		{api.Case{Trans: []api.Trans{{}}}, 1, 0}, {api.Case{Trans: make([]api.Trans, 3)}, 3, 0}, {api.Case{Trans: make([]api.Trans, maxTrans+5)}, maxTrans + 5, 0},
		// Places do not count, nor does what may not be.
		{api.Case{Trans: []api.Trans{{Name: "T", Begin: -1, Commit: -7, At: []int{1, 2, 3}}}}, 1, 0},
		{api.Case{Trans: []api.Trans{{Acts: acts[:2]}, {At: []int{1}}, {Acts: acts[:3], At: []int{9}}}}, 3, 5},
		{api.Case{Trans: []api.Trans{{Acts: acts}, {Acts: acts}, {Acts: acts[:1]}}}, 3, 2*maxOps + 1},
		{api.Case{Trans: slices.Repeat([]api.Trans{{Acts: acts}}, maxTrans+1)}, maxTrans + 1, (maxTrans + 1) * maxOps},
	} {
		if n, m := project.Size(x.c); n != x.trans || m != x.acts {
			t.Errorf("Size(%s): %d, %d; want %d, %d", show(x.c), n, m, x.trans, x.acts)
		}
	}
}
