package mapping_test

import (
	"maps"
	"math"
	"slices"
	"testing"

	"armistice/api"
	"armistice/mapping"
	"armistice/state"
)

// The calls must keep the chapter's signatures.
var (
	_ func([]int, int) (int, bool)                                   = mapping.Find
	_ func([]int, int, int) []int                                    = mapping.Set
	_ func([]int, int) []int                                         = mapping.Drop
	_ func(api.State, int, int, int) (api.State, api.Ret, api.Errno) = mapping.Apply
)

// The greatest number, and the least.
const (
	greatest = math.MaxInt
	least    = math.MinInt
)

// The kinds by the document's numbers, so that the tests hang on no name.
const (
	put = 7
	get = 8
	del = 9
)

func of(l ...int) api.State { return api.State{Type: 3, L: l} }
func told(n int) api.Ret    { return api.Ret{Kind: 2, N: n} }
func nothing() api.Ret      { return api.Ret{Kind: 1} }

// edges are numbers about which something changes, rising.
func edges() []int {
	return []int{least, least + 1, -1 << 32, -7, -2, -1, 0, 1, 2, 5, 1 << 31, greatest - 1, greatest}
}

// each are the lists of all maps of some of these keys, which rise, each to one of these values.
func each(keys, values []int) [][]int {
	out := [][]int{nil}
	for _, key := range keys {
		for _, l := range out[:len(out):len(out)] {
			for _, value := range values {
				out = append(out, append(slices.Clone(l), key, value))
			}
		}
	}
	return out
}

// few are maps of some edges, to values that are keys, others' values, 0 and the edges themselves.
func few() [][]int {
	return each([]int{least, -1, 0, 1, greatest}, []int{least, 0, 1, greatest})
}

// steps is a map of count keys, each two away from the next one; the values go down, and come more than once.
func steps(count int) []int {
	var l []int
	for i := range count {
		l = append(l, 2*i-count, (count-i)/2)
	}
	return l
}

// numbers are many, the same ones each time, of which some come more than once.
func numbers(count, most int) []int {
	l := make([]int, count)
	x := uint64(88172645463325252)
	for i := range l {
		x ^= x << 13
		x ^= x >> 7
		x ^= x << 17
		l[i] = int(x>>1)%(2*most+1) - most
	}
	return l
}

// held is what a map's list holds.
func held(l []int) map[int]int {
	m := map[int]int{}
	for pair := range slices.Chunk(l, 2) {
		m[pair[0]] = pair[1]
	}
	return m
}

// listed is the list of what is held.
func listed(m map[int]int) []int {
	var l []int
	for _, key := range slices.Sorted(maps.Keys(m)) {
		l = append(l, key, m[key])
	}
	return l
}

// set is what Set must answer, by way of what is held.
func set(l []int, key, value int) []int {
	m := held(l)
	m[key] = value
	return listed(m)
}

// drop is what Drop must answer.
func drop(l []int, key int) []int {
	m := held(l)
	delete(m, key)
	return listed(m)
}

// isMap tells whether a state is a map in its form, by the document's words.
func isMap(s api.State) bool {
	if s.Type != 3 || s.N != 0 || len(s.L)&1 == 1 {
		return false
	}
	for i := 3; i < len(s.L); i += 2 {
		if s.L[i-3] >= s.L[i-1] {
			return false
		}
	}
	return true
}

// applied is what Apply must answer, by the chapter's words in their order.
func applied(s api.State, kind, a, b int) (api.State, api.Ret, api.Errno) {
	switch {
	case !isMap(s):
		return api.State{}, api.Ret{}, 12
	case kind < 7 || kind > 9:
		return api.State{}, api.Ret{}, 6
	case b != 0 && kind != put:
		return api.State{}, api.Ret{}, 2
	}
	ret := nothing()
	if value, there := held(s.L)[a]; there {
		ret = told(value)
	}
	switch kind {
	case put:
		return of(set(s.L, a, b)...), ret, 0
	case del:
		return of(drop(s.L, a)...), ret, 0
	}
	return s, ret, 0
}

// like tells whether two states are the same, by the test's own look.
func like(a, b api.State) bool {
	return a.Type == b.Type && a.N == b.N && slices.Equal(a.L, b.L)
}

func expectFind(t *testing.T, l []int, key, want int, there bool) {
	t.Helper()
	if n, is := mapping.Find(l, key); n != want || is != there {
		t.Errorf("Find(%.20v, %d): %d, %v; want %d, %v", l, key, n, is, want, there)
	}
}

func expectSet(t *testing.T, l []int, key, value int, want ...int) {
	t.Helper()
	if out := mapping.Set(l, key, value); !slices.Equal(out, want) {
		t.Errorf("Set(%.20v, %d, %d): %.20v; want %.20v", l, key, value, out, want)
	}
}

func expectDrop(t *testing.T, l []int, key int, want ...int) {
	t.Helper()
	if out := mapping.Drop(l, key); !slices.Equal(out, want) {
		t.Errorf("Drop(%.20v, %d): %.20v; want %.20v", l, key, out, want)
	}
}

// expectAll holds Find, Set and Drop of a map against the chapter's words.
func expectAll(t *testing.T, l []int, key, value int) {
	t.Helper()
	n, there := held(l)[key]
	expectFind(t, l, key, n, there)
	expectSet(t, l, key, value, set(l, key, value)...)
	expectDrop(t, l, key, drop(l, key)...)
}

func expect(t *testing.T, s api.State, kind, a, b int, want api.State, ret api.Ret, err api.Errno) {
	t.Helper()
	if then, r, e := mapping.Apply(s, kind, a, b); !like(then, want) || r != ret || e != err {
		t.Errorf("Apply(%.20v, %d, %d, %d): %.20v, %v, %v; want %.20v, %v, %v", s, kind, a, b, then, r, e, want, ret, err)
	}
}

// done is an operation that must be OK: ret is what it must return, and want the keys and values that must be there then.
func done(t *testing.T, l []int, kind, a, b int, ret api.Ret, want ...int) {
	t.Helper()
	expect(t, of(l...), kind, a, b, of(want...), ret, 0)
}

func refuse(t *testing.T, s api.State, kind, a, b int, err api.Errno) {
	t.Helper()
	expect(t, s, kind, a, b, api.State{}, api.Ret{}, err)
}

// only is the value for a kind that brings one, and 0 for others.
func only(kind, value int) int {
	if kind == put {
		return value
	}
	return 0
}

// apply is the keys and values then, and what was returned; the operation must be OK, and the answer a map that returns a number or nothing.
func apply(t *testing.T, l []int, kind, a, b int) ([]int, api.Ret) {
	t.Helper()
	s, ret, e := mapping.Apply(of(l...), kind, a, b)
	if e != api.OK || !isMap(s) || ret != nothing() && ret.Kind != 2 {
		t.Fatalf("Apply(%.20v, %d, %d, %d): %.20v, %v, %v", l, kind, a, b, s, ret, e)
	}
	return s.L, ret
}

// got is what Get returns.
func got(t *testing.T, l []int, key int) api.Ret {
	t.Helper()
	then, ret := apply(t, l, get, key, 0)
	if !slices.Equal(then, l) {
		t.Errorf("Get %d made %.20v of %.20v", key, then, l)
	}
	return ret
}

// TestExamples holds the chapter's table.
func TestExamples(t *testing.T) {
	expectFind(t, []int{1, 10, 2, 20}, 2, 20, true)
	expectFind(t, []int{1, 10}, 3, 0, false)
	expectSet(t, []int{2, 20}, 1, 5, 1, 5, 2, 20)
	expectSet(t, []int{1, 10}, 1, 5, 1, 5)
	expectDrop(t, []int{1, 10, 2, 20}, 1, 2, 20)
	expectDrop(t, []int{1, 10}, 9, 1, 10)
	one := []int{1, 10}
	done(t, one, put, 1, 11, told(10), 1, 11)
	done(t, one, put, 0, 7, nothing(), 0, 7, 1, 10)
	done(t, one, get, 1, 0, told(10), 1, 10)
	done(t, one, get, 2, 0, nothing(), 1, 10)
	done(t, one, del, 1, 0, told(10))
	done(t, nil, del, 1, 0, nothing())
	refuse(t, of(1, 10), get, 1, 1, api.ErrArg)
	refuse(t, of(1, 10), 5, 1, 0, api.ErrWord)
	refuse(t, of(2, 20, 1, 10), get, 1, 0, api.ErrState)
	if api.Map != 3 || api.Put != put || api.Get != get || api.Del != del || api.RetNone != 1 || api.RetNumber != 2 || api.ErrArg != 2 || api.ErrWord != 6 || api.ErrState != 12 {
		t.Error("the numbers are not the document's")
	}
}

// P8.1: Find, Set, Drop.

func TestFind(t *testing.T) {
	for _, x := range []struct {
		l          []int
		key, value int
		there      bool
	}{
		{nil, 0, 0, false}, {[]int{}, 0, 0, false}, {nil, least, 0, false}, {nil, greatest, 0, false},
		{[]int{7, 70}, 6, 0, false}, {[]int{7, 70}, 7, 70, true}, {[]int{7, 70}, 8, 0, false}, {[]int{7, 70}, 70, 0, false}, {[]int{7, 70}, least, 0, false}, {[]int{7, 70}, greatest, 0, false},
		{[]int{7, 0}, 7, 0, true}, {[]int{7, 0}, 0, 0, false}, {[]int{0, 7}, 0, 7, true}, {[]int{0, 0}, 0, 0, true}, {[]int{0, 0}, 1, 0, false},
		{[]int{-3, 5, 3, 5}, -4, 0, false}, {[]int{-3, 5, 3, 5}, -3, 5, true}, {[]int{-3, 5, 3, 5}, 0, 0, false}, {[]int{-3, 5, 3, 5}, 3, 5, true}, {[]int{-3, 5, 3, 5}, 4, 0, false}, {[]int{-3, 5, 3, 5}, 5, 0, false},
		{[]int{1, 2, 2, 1}, 1, 2, true}, {[]int{1, 2, 2, 1}, 2, 1, true}, {[]int{1, 3, 2, 4}, 3, 0, false}, {[]int{1, 1, 2, 2}, 2, 2, true},
		{[]int{1, 10, 3, 30, 5, 50}, 1, 10, true}, {[]int{1, 10, 3, 30, 5, 50}, 2, 0, false}, {[]int{1, 10, 3, 30, 5, 50}, 3, 30, true}, {[]int{1, 10, 3, 30, 5, 50}, 4, 0, false}, {[]int{1, 10, 3, 30, 5, 50}, 5, 50, true}, {[]int{1, 10, 3, 30, 5, 50}, 30, 0, false},
		{[]int{least, greatest, 0, 0, greatest, least}, least, greatest, true}, {[]int{least, greatest, 0, 0, greatest, least}, greatest, least, true}, {[]int{least, greatest, 0, 0, greatest, least}, least + 1, 0, false}, {[]int{least, greatest, 0, 0, greatest, least}, greatest - 1, 0, false}, {[]int{least, greatest, 0, 0, greatest, least}, -1, 0, false}, {[]int{least, greatest, 0, 0, greatest, least}, 1, 0, false},
		{[]int{least, least, greatest, greatest}, least, least, true}, {[]int{least, least, greatest, greatest}, greatest, greatest, true},
		{[]int{least + 1, 1, greatest - 1, 2}, least, 0, false}, {[]int{least + 1, 1, greatest - 1, 2}, greatest, 0, false}, {[]int{least + 1, least, greatest - 1, greatest}, least, 0, false}, {[]int{least + 1, least, greatest - 1, greatest}, greatest, 0, false},
	} {
		expectFind(t, x.l, x.key, x.value, x.there)
	}
}

func TestSet(t *testing.T) {
	expectSet(t, nil, 5, 50, 5, 50)
	expectSet(t, []int{}, 0, 0, 0, 0)
	expectSet(t, nil, least, greatest, least, greatest)
	expectSet(t, nil, greatest, least, greatest, least)
	expectSet(t, []int{5, 50}, 4, 40, 4, 40, 5, 50)
	expectSet(t, []int{5, 50}, 5, 50, 5, 50)
	expectSet(t, []int{5, 50}, 5, 0, 5, 0)
	expectSet(t, []int{5, 50}, 5, 5, 5, 5)
	expectSet(t, []int{5, 50}, 6, 60, 5, 50, 6, 60)
	expectSet(t, []int{5, 50}, 50, 5, 5, 50, 50, 5)
	expectSet(t, []int{1, 10, 4, 40}, 1, 4, 1, 4, 4, 40)
	expectSet(t, []int{1, 10, 4, 40}, 4, 10, 1, 10, 4, 10)
	expectSet(t, []int{1, 10, 4, 40}, 0, 1, 0, 1, 1, 10, 4, 40)
	expectSet(t, []int{1, 10, 4, 40}, 2, 3, 1, 10, 2, 3, 4, 40)
	expectSet(t, []int{1, 10, 4, 40}, 9, 0, 1, 10, 4, 40, 9, 0)
	expectSet(t, []int{1, 10, 4, 40}, 10, 10, 1, 10, 4, 40, 10, 10)
	expectSet(t, []int{1, 10, 4, 40, 9, 90}, 4, -4, 1, 10, 4, -4, 9, 90)
	expectSet(t, []int{1, 10, 4, 40, 9, 90}, 5, 1, 1, 10, 4, 40, 5, 1, 9, 90)
	expectSet(t, []int{-1, 0, 1, 0}, least, 0, least, 0, -1, 0, 1, 0)
	expectSet(t, []int{-1, 0, 1, 0}, greatest, 0, -1, 0, 1, 0, greatest, 0)
	expectSet(t, []int{least, 1, greatest, 2}, least, least, least, least, greatest, 2)
	expectSet(t, []int{least, 1, greatest, 2}, greatest, greatest, least, 1, greatest, greatest)
	expectSet(t, []int{least, 1, greatest, 2}, 0, 0, least, 1, 0, 0, greatest, 2)
}

func TestDrop(t *testing.T) {
	expectDrop(t, nil, 5)
	expectDrop(t, []int{}, 0)
	expectDrop(t, []int{5, 50}, 5)
	expectDrop(t, []int{5, 50}, 4, 5, 50)
	expectDrop(t, []int{5, 50}, 6, 5, 50)
	expectDrop(t, []int{5, 50}, 50, 5, 50)
	expectDrop(t, []int{0, 0}, 0)
	expectDrop(t, []int{5, 0}, 0, 5, 0)
	expectDrop(t, []int{1, 10, 4, 40}, 1, 4, 40)
	expectDrop(t, []int{1, 10, 4, 40}, 4, 1, 10)
	expectDrop(t, []int{1, 10, 4, 40}, 3, 1, 10, 4, 40)
	expectDrop(t, []int{1, 4, 4, 1}, 4, 1, 4)
	expectDrop(t, []int{1, 7, 4, 7}, 1, 4, 7)
	expectDrop(t, []int{1, 10, 4, 40, 9, 90}, 4, 1, 10, 9, 90)
	expectDrop(t, []int{1, 10, 4, 40, 9, 90}, 10, 1, 10, 4, 40, 9, 90)
	expectDrop(t, []int{least, 1, 0, 2, greatest, 3}, least, 0, 2, greatest, 3)
	expectDrop(t, []int{least, 1, 0, 2, greatest, 3}, greatest, least, 1, 0, 2)
	expectDrop(t, []int{least + 1, least, greatest - 1, greatest}, least, least+1, least, greatest-1, greatest)
	expectDrop(t, []int{least + 1, least, greatest - 1, greatest}, greatest, least+1, least, greatest-1, greatest)
}

// TestEachMap: each map of some edges, asked for each edge; and maps of each length, asked at, ahead of and behind each key.
func TestEachMap(t *testing.T) {
	for _, l := range few() {
		for _, key := range append(edges(), 3) {
			for _, value := range []int{least, 0, 1, 9, greatest} {
				expectAll(t, l, key, value)
			}
		}
	}
	for _, l := range each(edges(), []int{0}) {
		expectAll(t, l, edges()[len(l)%13], len(l))
	}
	for count := range 50 {
		l := steps(count)
		for key := -count - 2; key <= count+2; key++ {
			expectAll(t, l, key, key/3)
		}
	}
	if len(few()) != 3125 || len(each(edges(), []int{0})) != 8192 {
		t.Error("the test itself is wrong:", len(few()))
	}
}

func TestManyKeys(t *testing.T) {
	for _, count := range []int{1 << 16, 1<<16 + 1, 1<<16 - 1, 99999} {
		l := steps(count)
		for i := 0; i < count; i += 997 {
			expectFind(t, l, l[2*i]-1, 0, false)
			expectFind(t, l, l[2*i], (count-i)/2, true)
		}
		for _, key := range []int{-count - 1, -count, -count + 1, 0, 1, count - 3, count - 2, count - 1, count} {
			expectAll(t, l, key, 5)
		}
	}
}

// TestNoMaps: of lists that are no map's just this is promised, that the calls end.
func TestNoMaps(t *testing.T) {
	lists, odd, unsorted := [][]int{{}}, 0, 0
	for from := 0; from < len(lists); from++ {
		l := lists[from]
		if len(l)&1 == 1 {
			odd++
		} else if !isMap(of(l...)) {
			unsorted++
		}
		for _, key := range append(edges(), 3) {
			mapping.Find(l, key)
			mapping.Set(l, key, 0)
			mapping.Drop(l, key)
		}
		for _, n := range []int{least, -1, 0, 1, greatest} {
			if len(l) < 6 {
				lists = append(lists, append(slices.Clone(l), n))
			}
		}
	}
	for _, many := range [][]int{numbers(10000, 50), numbers(10001, 50), make([]int, 9999), slices.Repeat([]int{1, 2}, 5000)} {
		for key := -60; key <= 60; key++ {
			mapping.Find(many, key)
			mapping.Set(many, key, key)
			mapping.Drop(many, key)
		}
	}
	if odd != 5+125+3125 || unsorted < 5000 {
		t.Error("the test itself is wrong:", odd, unsorted)
	}
}

// P8.2: Apply.

func TestPut(t *testing.T) {
	done(t, nil, put, 0, 0, nothing(), 0, 0)
	done(t, nil, put, 5, 50, nothing(), 5, 50)
	done(t, nil, put, least, greatest, nothing(), least, greatest)
	done(t, nil, put, greatest, least, nothing(), greatest, least)
	done(t, []int{5, 50}, put, 5, 50, told(50), 5, 50)
	done(t, []int{5, 50}, put, 5, 51, told(50), 5, 51)
	done(t, []int{5, 50}, put, 5, 0, told(50), 5, 0)
	done(t, []int{5, 50}, put, 5, 5, told(50), 5, 5)
	done(t, []int{5, 0}, put, 5, 1, told(0), 5, 1)
	done(t, []int{5, 0}, put, 5, 0, told(0), 5, 0)
	done(t, []int{5, 5}, put, 5, 6, told(5), 5, 6)
	done(t, []int{5, 50}, put, 50, 5, nothing(), 5, 50, 50, 5)
	done(t, []int{5, 50}, put, 4, 50, nothing(), 4, 50, 5, 50)
	done(t, []int{5, 50}, put, 6, 50, nothing(), 5, 50, 6, 50)
	done(t, []int{1, 10, 4, 40}, put, 1, 40, told(10), 1, 40, 4, 40)
	done(t, []int{1, 10, 4, 40}, put, 4, 1, told(40), 1, 10, 4, 1)
	done(t, []int{1, 10, 4, 40}, put, 2, 0, nothing(), 1, 10, 2, 0, 4, 40)
	done(t, []int{1, 10, 4, 40, 9, 90}, put, 4, -1, told(40), 1, 10, 4, -1, 9, 90)
	done(t, []int{least, 1, greatest, 2}, put, least, greatest, told(1), least, greatest, greatest, 2)
	done(t, []int{least, 1, greatest, 2}, put, greatest, least, told(2), least, 1, greatest, least)
	done(t, []int{least, greatest, greatest, least}, put, least, 0, told(greatest), least, 0, greatest, least)
	done(t, []int{-1, 0, 1, 0}, put, least, least, nothing(), least, least, -1, 0, 1, 0)
	done(t, []int{-1, 0, 1, 0}, put, greatest, greatest, nothing(), -1, 0, 1, 0, greatest, greatest)
}

func TestGet(t *testing.T) {
	done(t, nil, get, 0, 0, nothing())
	done(t, []int{}, get, least, 0, nothing())
	done(t, []int{0, 0}, get, 0, 0, told(0), 0, 0)
	done(t, []int{0, 0}, get, 1, 0, nothing(), 0, 0)
	done(t, []int{5, 50}, get, 5, 0, told(50), 5, 50)
	done(t, []int{5, 50}, get, 50, 0, nothing(), 5, 50)
	done(t, []int{5, 50}, get, 4, 0, nothing(), 5, 50)
	done(t, []int{5, 50}, get, 6, 0, nothing(), 5, 50)
	done(t, []int{1, 10, 4, 10, 9, 1}, get, 1, 0, told(10), 1, 10, 4, 10, 9, 1)
	done(t, []int{1, 10, 4, 10, 9, 1}, get, 4, 0, told(10), 1, 10, 4, 10, 9, 1)
	done(t, []int{1, 10, 4, 10, 9, 1}, get, 9, 0, told(1), 1, 10, 4, 10, 9, 1)
	done(t, []int{1, 10, 4, 10, 9, 1}, get, 5, 0, nothing(), 1, 10, 4, 10, 9, 1)
	done(t, []int{least, greatest, greatest, least}, get, least, 0, told(greatest), least, greatest, greatest, least)
	done(t, []int{least, greatest, greatest, least}, get, greatest, 0, told(least), least, greatest, greatest, least)
	done(t, []int{-1, least, 1, greatest}, get, least, 0, nothing(), -1, least, 1, greatest)
	done(t, []int{-1, least, 1, greatest}, get, greatest, 0, nothing(), -1, least, 1, greatest)
}

func TestDel(t *testing.T) {
	done(t, nil, del, 0, 0, nothing())
	done(t, []int{}, del, greatest, 0, nothing())
	done(t, []int{0, 0}, del, 0, 0, told(0))
	done(t, []int{5, 50}, del, 5, 0, told(50))
	done(t, []int{5, 50}, del, 50, 0, nothing(), 5, 50)
	done(t, []int{5, 50}, del, 4, 0, nothing(), 5, 50)
	done(t, []int{5, 50}, del, 6, 0, nothing(), 5, 50)
	done(t, []int{1, 4, 4, 1}, del, 1, 0, told(4), 4, 1)
	done(t, []int{1, 4, 4, 1}, del, 4, 0, told(1), 1, 4)
	done(t, []int{1, 10, 4, 10, 9, 10}, del, 4, 0, told(10), 1, 10, 9, 10)
	done(t, []int{1, 10, 4, 10, 9, 10}, del, 10, 0, nothing(), 1, 10, 4, 10, 9, 10)
	done(t, []int{least, greatest, greatest, least}, del, least, 0, told(greatest), greatest, least)
	done(t, []int{least, greatest, greatest, least}, del, greatest, 0, told(least), least, greatest)
	done(t, []int{-1, 0, 1, 0}, del, least, 0, nothing(), -1, 0, 1, 0)
	done(t, []int{-1, 0, 1, 0}, del, greatest, 0, nothing(), -1, 0, 1, 0)
}

// maybe are some maps in their form.
func maybe() []api.State {
	return []api.State{of(), of(0, 0), of(1, 10), of(1, 10, 4, 40), of(least, -1, -1, 1, 0, least, 1, 0, greatest, 2)}
}

// TestArguments: Get and Del use the key alone, Put both of them, whatever they are.
func TestArguments(t *testing.T) {
	for _, s := range maybe() {
		for _, x := range edges() {
			for _, y := range edges() {
				if y != 0 {
					refuse(t, s, get, x, y, api.ErrArg)
					refuse(t, s, del, x, y, api.ErrArg)
				}
				want, ret, err := applied(s, put, x, y)
				expect(t, s, put, x, y, want, ret, err)
			}
		}
	}
}

// noKinds are all kinds of other types, and numbers that are no kind; some are a map's, but for the bits above.
func noKinds() []int {
	l := []int{0, -1, 16, 17, 255, 256, 263, 264, 265, 1<<16 + 7, 1<<32 + 7, 1<<32 + 9, least, least + 7, least + 9, greatest, greatest - 1}
	for kind := 1; kind <= 15; kind++ {
		l = append(l, -kind)
		if kind < put || kind > del {
			l = append(l, kind)
		}
	}
	return l
}

// TestKinds: a kind that is none of these goes ahead of arguments that are wrong.
func TestKinds(t *testing.T) {
	for _, kind := range noKinds() {
		for _, s := range maybe() {
			for _, x := range []int{0, 1, -1, 4, least, greatest} {
				for _, y := range []int{0, 1, -1, least, greatest} {
					refuse(t, s, kind, x, y, api.ErrWord)
				}
			}
		}
	}
}

// noMaps are states of other types, in their form and not, of no type, and maps that are not in their form.
func noMaps() []api.State {
	var out []api.State
	for _, kind := range []int{0, 1, 2, 4, 5, 6, 7, -1, -3, 255, 256, 259, 1<<32 + 3, least, least + 3, greatest} {
		for _, n := range []int{0, 1, -1, least, greatest} {
			out = append(out, api.State{Type: kind, N: n})
		}
		out = append(out, api.State{Type: kind, L: []int{}}, api.State{Type: kind, L: []int{5}}, api.State{Type: kind, L: []int{1, 2}}, api.State{Type: kind, L: []int{1, 2, 3, 4}}, api.State{Type: kind, L: []int{2, 1, 1, 2}})
	}
	for _, n := range []int{1, 2, -1, 1 << 32, least, greatest} {
		out = append(out, api.State{Type: 3, N: n}, api.State{Type: 3, N: n, L: []int{1, 10}}, api.State{Type: 3, N: n, L: []int{1, 10, 4, 40}}, api.State{Type: 3, N: n, L: []int{1}}, api.State{Type: 3, N: n, L: []int{4, 40, 1, 10}})
	}
	for _, l := range [][]int{{0}, {1}, {least}, {greatest}, {1, 10, 2}, {1, 2, 3}, {1, 10, 2, 20, 3}, {2, 20, 1, 10}, {1, 10, 1, 10}, {1, 10, 1, 20}, {0, 0, 0, 0}, {least, 0, least, 0}, {greatest, 0, greatest, 0}, {greatest, 0, least, 0}, {1, 10, 4, 40, 4, 40}, {1, 10, 1, 10, 4, 40}, {1, 10, 9, 90, 4, 40}, {9, 1, 1, 2, 4, 3}, {1, 0, 2, 0, 3, 0, 4, 0, 5, 0, 5, 1}, {2, 1, 1, 2, 3, 3, 4, 4}, {3, 1, 2, 2, 1, 3}, {1, 0, 2}, make([]int, 1000), make([]int, 999)} {
		out = append(out, of(l...))
	}
	return out
}

// TestStates: a state that is no map goes ahead of a kind that is none, and that ahead of arguments that are wrong.
func TestStates(t *testing.T) {
	for _, s := range noMaps() {
		for _, kind := range append(noKinds(), put, get, del) {
			refuse(t, s, kind, 0, 0, api.ErrState)
			refuse(t, s, kind, 1, 0, api.ErrState)
			refuse(t, s, kind, 0, 1, api.ErrState)
			refuse(t, s, kind, least, greatest, api.ErrState)
		}
	}
}

// TestEverywhere holds Apply against the chapter's words at all of these together, so that it ends and answers everywhere, each time the same.
func TestEverywhere(t *testing.T) {
	states := append(noMaps(), api.State{Type: 3}, of([]int{}...))
	for _, l := range each([]int{least, -1, 0, 5, greatest}, []int{0, least}) {
		states = append(states, of(l...))
	}
	count := map[api.Errno]int{}
	for _, s := range states {
		for kind := -3; kind <= 18; kind++ {
			for _, x := range []int{0, 1, -1, 3, 5, least, greatest} {
				for _, y := range []int{0, 1, -1, least, greatest} {
					then, ret, err := applied(s, kind, x, y)
					count[err]++
					expect(t, s, kind, x, y, then, ret, err)
					expect(t, s, kind, x, y, then, ret, err)
				}
			}
		}
	}
	if len(count) != 4 || count[api.OK] < 1000 || count[api.ErrArg] < 1000 || count[api.ErrWord] < 1000 || count[api.ErrState] < 1000 {
		t.Error("the test itself is wrong:", count)
	}
}

// TestEachState: each map of some edges, and each operation on it; what is answered is a map in its form.
func TestEachState(t *testing.T) {
	for _, l := range few() {
		for kind := put; kind <= del; kind++ {
			for _, key := range []int{least, least + 1, -1, 0, 1, 5, greatest} {
				value := only(kind, key^len(l))
				want, ret, err := applied(of(l...), kind, key, value)
				expect(t, of(l...), kind, key, value, want, ret, err)
				then, _, _ := mapping.Apply(of(l...), kind, key, value)
				if e := state.Check(then); e != api.OK || !state.Same(then, want) {
					t.Errorf("Apply(%v, %d, %d, %d): %v is not in its form: %v", l, kind, key, value, then, e)
				}
			}
		}
	}
}

// P8.3: what follows.

// TestPutAndGot: what was put is got, of what was deleted nothing is, and of other keys nothing changes; Put and Del return what Get had returned.
func TestPutAndGot(t *testing.T) {
	some := []int{least, least + 1, -1, 0, 1, 2, greatest}
	for _, l := range few() {
		for _, key := range some {
			was := got(t, l, key)
			in, first := apply(t, l, put, key, len(l))
			out, second := apply(t, l, del, key, 0)
			if first != was || second != was {
				t.Errorf("%v: Get %d is %v, Put %v, Del %v", l, key, was, first, second)
			}
			if got(t, in, key) != told(len(l)) || got(t, out, key) != nothing() {
				t.Errorf("%v: behind Put %d Get is %v, behind Del %v", l, key, got(t, in, key), got(t, out, key))
			}
			if slices.Equal(in, l) != (was == told(len(l))) || slices.Equal(out, l) != (was == nothing()) {
				t.Errorf("%v: Get %d is %v; Put makes %v, Del %v", l, key, was, in, out)
			}
			for _, other := range some {
				if ret := got(t, l, other); other != key && (got(t, in, other) != ret || got(t, out, other) != ret) {
					t.Errorf("%v: Get %d is %v; behind Put %d %v, behind Del %v", l, other, ret, key, got(t, in, other), got(t, out, other))
				}
			}
		}
	}
}

// TestAnew: what is put anew is all that is left of a key; to do it once more changes nothing; to put back what was returned comes to what was.
func TestAnew(t *testing.T) {
	for _, l := range few() {
		for _, key := range []int{least, -2, 0, 1, greatest} {
			one, was := apply(t, l, put, key, 11)
			two, ret := apply(t, one, put, key, 12)
			if ret != told(11) || got(t, two, key) != told(12) || len(two) != len(one) {
				t.Errorf("%v: Put %d 11 and 12: %v, %v", l, key, two, ret)
			}
			done(t, two, put, key, 12, told(12), two...)
			done(t, two, put, key, 11, told(12), one...)
			out, _ := apply(t, l, del, key, 0)
			done(t, out, del, key, 0, nothing(), out...)
			done(t, two, del, key, 0, told(12), out...)
			done(t, out, put, key, 11, nothing(), one...)
			if was == nothing() {
				done(t, one, del, key, 0, told(11), l...)
			} else {
				done(t, one, put, key, was.N, told(11), l...)
				done(t, out, put, key, was.N, nothing(), l...)
			}
		}
	}
}

// orders are all orders of l.
func orders(l []int) [][]int {
	if len(l) == 0 {
		return [][]int{nil}
	}
	var out [][]int
	for i, first := range l {
		for _, rest := range orders(slices.Delete(slices.Clone(l), i, i+1)) {
			out = append(out, append([]int{first}, rest...))
		}
	}
	return out
}

// TestOrders: in whatever order keys come and go, the same map is there.
func TestOrders(t *testing.T) {
	for _, keys := range [][]int{nil, {5}, {-1, 1}, {least, 0, greatest}, {1, 2, 3, 4}, {least, -5, 0, 5, greatest}, {-3, -2, -1, 0, 1, 2}} {
		var want []int
		for _, key := range keys {
			want = append(want, key, -key)
		}
		for _, come := range orders(keys) {
			var l []int
			for _, key := range come {
				l, _ = apply(t, l, put, key, 7)
			}
			for _, key := range slices.Backward(come) {
				l, _ = apply(t, l, put, key, -key)
			}
			if !slices.Equal(l, want) {
				t.Errorf("put in the order %v: %v", come, l)
			}
			for i, key := range come {
				then, ret := apply(t, l, del, key, 0)
				if ret != told(-key) || len(then) != 2*(len(come)-i-1) {
					t.Errorf("%v: Del %d: %v, %v", l, key, then, ret)
				}
				l = then
			}
		}
	}
}

// TestLongRun: many operations one behind the other, against what is kept in a map.
func TestLongRun(t *testing.T) {
	for _, most := range []int{2, 20, 500} {
		kept := map[int]int{}
		var l []int
		for i, key := range numbers(20000, most) {
			kind := []int{put, del, get, put}[i/3%4]
			value := only(kind, i%5)
			want := nothing()
			if n, there := kept[key]; there {
				want = told(n)
			}
			then, ret := apply(t, l, kind, key, value)
			if ret != want {
				t.Fatalf("%.20v: kind %d of %d: %v; want %v", l, kind, key, ret, want)
			}
			switch kind {
			case put:
				kept[key] = value
			case del:
				delete(kept, key)
			}
			l = then
			if len(l) != 2*len(kept) {
				t.Fatalf("%d numbers are there; want %d keys", len(l), len(kept))
			}
		}
		if !maps.Equal(held(l), kept) || len(kept) < most/2 {
			t.Errorf("%.20v is left; want %.20v", l, listed(kept))
		}
	}
}

// What is handed in, and what is answered.

// TestHandedIn: lists stay as they were, their spare room too, and what stands there is not looked at.
func TestHandedIn(t *testing.T) {
	for count := range 7 {
		for key := -count - 1; key <= count+1; key++ {
			room := append(steps(count), key, 55, key, 66)
			l, kept := room[:2*count], slices.Clone(room)
			expectAll(t, l, key, 8)
			for kind := put; kind <= del; kind++ {
				value := only(kind, 8)
				want, ret, err := applied(of(kept[:2*count]...), kind, key, value)
				expect(t, of(l...), kind, key, value, want, ret, err)
			}
			refuse(t, of(l...), get, key, 1, api.ErrArg)
			refuse(t, of(l...), 1, key, 0, api.ErrWord)
			refuse(t, of(room[:2*count+1]...), get, key, 0, api.ErrState)
			refuse(t, api.State{Type: 3, N: 1, L: l}, put, key, 0, api.ErrState)
			refuse(t, api.State{Type: 4, L: l}, put, key, 0, api.ErrState)
			mapping.Find(room[:2*count+1], key)
			mapping.Set(room[:2*count+1], key, 8)
			mapping.Drop(room[:2*count+1], key)
			if !slices.Equal(room, kept) {
				t.Errorf("%v: %v has become of it", kept, room)
			}
		}
	}
}

// mar writes over a list and its spare room.
func mar(l []int) {
	l = l[:cap(l)]
	for i := range l {
		l[i] = 77
	}
}

// TestNewMemory: to write into an answer, its spare room too, changes neither what was handed in nor another answer; nor the other way about.
func TestNewMemory(t *testing.T) {
	for count := range 7 {
		for key := -count - 1; key <= count+1; key++ {
			calls := map[string]func([]int) []int{
				"Set":  func(l []int) []int { return mapping.Set(l, key, 8) },
				"Drop": func(l []int) []int { return mapping.Drop(l, key) },
				"Put":  func(l []int) []int { then, _ := apply(t, l, put, key, 8); return then },
				"Get":  func(l []int) []int { then, _ := apply(t, l, get, key, 0); return then },
				"Del":  func(l []int) []int { then, _ := apply(t, l, del, key, 0); return then },
			}
			for name, call := range calls {
				room := append(steps(count), 99, 98, 97)
				kept := slices.Clone(room)
				first, second := call(room[:2*count]), call(room[:2*count])
				want := slices.Clone(second)
				if spare := first[len(first):cap(first)]; slices.ContainsFunc(spare, func(n int) bool { return n != 0 }) {
					t.Errorf("%s of %v and %d: its spare room holds %v", name, kept[:2*count], key, spare)
				}
				mar(first)
				if !slices.Equal(room, kept) || !slices.Equal(second, want) || !slices.Equal(call(room[:2*count]), want) {
					t.Errorf("%s of %v and %d: an answer is not new memory", name, kept[:2*count], key)
				}
				mar(room)
				if !slices.Equal(second, want) {
					t.Errorf("%s of %v and %d: an answer hangs on what was handed in", name, kept[:2*count], key)
				}
			}
		}
	}
}

func FuzzMapping(f *testing.F) {
	f.Add(7, 1, 11, 0, 3, 1, 10, 4, 40, 9, 90)
	f.Add(8, 4, 0, 0, 3, 4, 40, 1, 10, 2, 20)
	f.Add(9, least, 0, 0, 3, least, 0, 0, greatest, greatest, 1)
	f.Add(8, 0, 1, 1, 2, 3, 2, 1, 0, 1, 2)
	f.Fuzz(func(t *testing.T, kind, a, b, n, object, u, v, w, x, y, z int) {
		l := []int{u, v, w, x, y, z}
		for count := range 7 {
			s := api.State{Type: object, N: n, L: l[:count]}
			then, ret, err := applied(s, kind, a, b)
			expect(t, s, kind, a, b, then, ret, err)
			if isMap(s) {
				expectAll(t, s.L, a, b)
			}
			mapping.Find(s.L, a)
			mapping.Set(s.L, a, b)
			mapping.Drop(s.L, a)
		}
	})
}
