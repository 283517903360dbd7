package project_test

import (
	"slices"
	"strconv"
	"strings"
	"testing"

	"armistice/api"
	"armistice/project"
)

// P14.2: Check; where it refuses, Dense and Back do, too.

// rooms is a case that may be, in which transactions of all sorts stand, far enough apart that a place between two is free.
func rooms() api.Case {
	return api.Case{
		Names: []string{"c", "s", "m", "q", "e"},
		First: []api.State{{Type: 1, N: 5}, first(2, 1, 2), first(3, 1, 10), first(4, 7, 7, 1), {Type: 5, N: 5}},
		Trans: []api.Trans{
			{Name: "t", Begin: 10, Commit: 90, At: []int{20, 40, 60}, Acts: []api.Act{act(0, 2), act(1, 3), act(3, 11)}},
			{Name: "u", Begin: 30, Commit: 35, At: []int{32, 34}, Acts: []api.Act{act(2, 7), act(4, 13)}},
			{Name: "c", Begin: 50, Commit: 70},
			{Name: "v", Begin: 55, Commit: 100, At: []int{95}, Acts: []api.Act{act(1, 6)}},
		},
	}
}

// with is rooms, changed.
func with(change func(c *api.Case)) api.Case {
	c := rooms()
	change(&c)
	return c
}

// rejectChanged holds that rooms, changed, may not be; so say the chapter's words in the model, too.
func rejectChanged(t testing.TB, want api.Errno, change func(c *api.Case)) {
	t.Helper()
	c := with(change)
	if err := wrong(c); err != want {
		t.Errorf("the test itself is wrong: %s: %v; want %v", show(c), err, want)
	}
	reject(t, c, want)
}

// acceptChanged holds that rooms, changed, may be.
func acceptChanged(t testing.TB, change func(c *api.Case)) {
	t.Helper()
	c := with(change)
	if err := wrong(c); err != api.OK {
		t.Errorf("the test itself is wrong: %s: %v", show(c), err)
	}
	accept(t, c)
}

// mistake is what is wrong with a case.
type mistake struct {
	err    api.Errno
	change func(c *api.Case)
}

// tooManyActs are more operations than a case may have, made once.
var tooManyActs = make([]api.Act, maxOps+1)

// tooLong are the mistakes that are told first.
func tooLong() []mistake {
	return []mistake{
		{api.ErrLong, func(c *api.Case) { c.Names = append(c.Names, make([]string, maxObjects)...) }},
		{api.ErrLong, func(c *api.Case) { c.Trans = append(c.Trans, make([]api.Trans, maxTrans)...) }},
		{api.ErrLong, func(c *api.Case) { c.Trans[2].Acts = tooManyActs }},
		{api.ErrArg, func(c *api.Case) { c.First = c.First[:4] }},
		{api.ErrArg, func(c *api.Case) { c.First = append(c.First, first(1)) }},
	}
}

// ofObject are the mistakes of an object, those that are told first first.
func ofObject(i int) []mistake {
	l := []mistake{{api.ErrName, func(c *api.Case) { c.Names[i] = "N" }}}
	if i > 0 {
		l = append(l, mistake{api.ErrExists, func(c *api.Case) { c.Names[i] = c.Names[i-1] }})
	}
	return append(l,
		mistake{api.ErrType, func(c *api.Case) { c.First[i] = api.State{Type: 6, N: 1, L: make([]int, 1001)} }},
		mistake{api.ErrForm, func(c *api.Case) { c.First[i] = first(2, make([]int, 1001)...) }},
		mistake{api.ErrLong, func(c *api.Case) { c.First[i] = first(4, make([]int, 1001)...) }},
	)
}

// ofTrans are the mistakes of a transaction, those that are told first first.
func ofTrans(i int) []mistake {
	l := []mistake{{api.ErrName, func(c *api.Case) { c.Trans[i].Name = "N" }}}
	if i > 0 {
		l = append(l, mistake{api.ErrExists, func(c *api.Case) { c.Trans[i].Name = c.Trans[0].Name }})
	}
	l = append(l,
		mistake{api.ErrArg, func(c *api.Case) { c.Trans[i].At = append(slices.Clone(c.Trans[i].At), 1000) }},
		mistake{api.ErrOrder, func(c *api.Case) { c.Trans[i].Begin = -1 }},
	)
	if i > 0 {
		l = append(l, mistake{api.ErrOrder, func(c *api.Case) { c.Trans[i].Begin = c.Trans[i-1].Begin }})
	}
	l = append(l, mistake{api.ErrOrder, func(c *api.Case) { c.Trans[i].Commit = c.Trans[i].Begin }})
	for k := range rooms().Trans[i].Acts {
		l = append(l, mistake{api.ErrOrder, func(c *api.Case) { c.Trans[i].At[k] = c.Trans[i].Begin }})
	}
	for k := range rooms().Trans[i].Acts {
		l = append(l, ofAct(i, k)...)
	}
	return l
}

// ofAct are the mistakes of an operation, those that are told first first.
func ofAct(i, k int) []mistake {
	return []mistake{
		{api.ErrRange, func(c *api.Case) { c.Trans[i].Acts[k].Object = -1 }},
		{api.ErrRange, func(c *api.Case) { c.Trans[i].Acts[k].Object = len(c.Names) }},
		{api.ErrWord, func(c *api.Case) { c.Trans[i].Acts[k].Op.Kind = 16 }},
		{api.ErrArg, func(c *api.Case) { c.Trans[i].Acts[k].Op = api.Op{Kind: 15, B: 1} }},
		{api.ErrReturn, func(c *api.Case) { c.Trans[i].Acts[k].Op.Ret = api.Ret{Kind: 3} }},
		{api.ErrType, func(c *api.Case) { c.Trans[i].Acts[k].Object = typeOf(rooms().Trans[i].Acts[k].Op.Kind) % 5 }},
	}
}

// chapter are mistakes of all sorts, in the order in which the chapter tells them.
func chapter() []mistake {
	l := tooLong()
	for i := range rooms().Names {
		l = append(l, ofObject(i)...)
	}
	for i := range rooms().Trans {
		l = append(l, ofTrans(i)...)
	}
	return append(l, mistake{api.ErrOrder, func(c *api.Case) { c.Trans[3].Commit = c.Trans[0].Commit + 10; c.Trans[0].Commit += 10 }})
}

// TestOneMistake: each mistake by itself is told with its error.
func TestOneMistake(t *testing.T) {
	accept(t, rooms())
	seen := map[api.Errno]int{}
	for _, x := range chapter() {
		rejectChanged(t, x.err, x.change)
		seen[x.err]++
	}
	for _, err := range []api.Errno{api.ErrLong, api.ErrArg, api.ErrName, api.ErrExists, api.ErrType, api.ErrForm, api.ErrOrder, api.ErrRange, api.ErrWord, api.ErrReturn} {
		if seen[err] < 3 {
			t.Error("the test itself is wrong:", seen)
		}
	}
}

// TestTwoMistakes: of two mistakes the one that the chapter names first is told.
func TestTwoMistakes(t *testing.T) {
	all := chapter()
	for n, ahead := range all {
		for _, behind := range all[n+1:] {
			c := rooms()
			behind.change(&c)
			ahead.change(&c)
			if err := project.Check(c); err != ahead.err {
				t.Errorf("%s: %v; want %v, which is ahead of %v", show(c), err, ahead.err, behind.err)
			}
			if n%7 == 0 {
				hold(t, c)
			}
		}
	}
}

// TestNone: cases without anything, of nil and of empty lists.
func TestNone(t *testing.T) {
	for _, c := range []api.Case{
		{}, {Names: []string{}}, {First: []api.State{}}, {Trans: []api.Trans{}}, {Names: []string{}, First: []api.State{}, Trans: []api.Trans{}},
		{Trans: []api.Trans{{Name: "t", Commit: 1}}}, {Trans: []api.Trans{{Name: "t", Commit: 1, Acts: []api.Act{}, At: []int{}}}}, {Trans: []api.Trans{{Name: "t", Commit: 1, At: []int{}}}}, {Names: []string{}, Trans: []api.Trans{{Name: "t", Commit: 1, Acts: []api.Act{}}}},
		{Names: []string{"a"}, First: []api.State{first(1)}}, {Names: []string{"a"}, First: []api.State{{Type: 2, L: []int{}}}, Trans: []api.Trans{}},
	} {
		accept(t, c)
	}
	for _, c := range []api.Case{{Names: []string{"a"}}, {Names: []string{"a"}, First: []api.State{}}, {First: []api.State{first(1)}}, {Names: []string{}, First: []api.State{{}}}, {Names: []string{""}, Trans: []api.Trans{{}}}} {
		reject(t, c, api.ErrArg)
	}
	reject(t, api.Case{Names: []string{""}, First: []api.State{{}}}, api.ErrName)
	reject(t, api.Case{Names: []string{"a"}, First: []api.State{{}}}, api.ErrType)
	reject(t, api.Case{Trans: []api.Trans{{}}}, api.ErrName)
	reject(t, api.Case{Trans: []api.Trans{{Name: "t"}}}, api.ErrOrder)
}

// TestCounts: 256 names, 4,096 transactions and 2^20 operations may be, and not one more of any.
func TestCounts(t *testing.T) {
	var c api.Case
	for n := range maxObjects + 1 {
		c.Names, c.First = append(c.Names, "a"+strconv.Itoa(n)), append(c.First, first(1+n%5))
	}
	for n := range maxTrans + 1 {
		c.Trans = append(c.Trans, api.Trans{Name: "t" + strconv.Itoa(n), Begin: 3 * n, Commit: 3*n + 2})
	}
	accept(t, api.Case{Names: c.Names[:maxObjects], First: c.First[:maxObjects], Trans: c.Trans[:maxTrans]})
	accept(t, api.Case{Names: c.Names[:maxObjects-1], First: c.First[:maxObjects-1], Trans: c.Trans[:maxTrans-1]})
	reject(t, api.Case{Names: c.Names, First: c.First}, api.ErrLong)
	reject(t, api.Case{Names: c.Names, First: c.First[:2]}, api.ErrLong)
	reject(t, api.Case{Names: c.Names}, api.ErrLong)
	reject(t, api.Case{Names: c.Names[:maxObjects], First: c.First}, api.ErrArg)
	reject(t, api.Case{Trans: c.Trans}, api.ErrLong)
	reject(t, api.Case{Names: c.Names[:1], Trans: c.Trans}, api.ErrLong)
	reject(t, api.Case{Names: make([]string, maxObjects+1)}, api.ErrLong)
	reject(t, api.Case{Names: make([]string, maxObjects)}, api.ErrArg)
	reject(t, api.Case{Trans: make([]api.Trans, maxTrans+1)}, api.ErrLong)
	reject(t, api.Case{Trans: make([]api.Trans, maxTrans)}, api.ErrName)
}

// TestCountsActs: operations are counted in all, be they one transaction's or those of several.
func TestCountsActs(t *testing.T) {
	acts, at := slices.Repeat([]api.Act{act(0, 1)}, maxOps+1), make([]int, maxOps+1)
	for i := range at {
		at[i] = 1 + i
	}
	one := func(n, places int) api.Case {
		return api.Case{Names: []string{"a"}, First: []api.State{first(1)}, Trans: []api.Trans{{Name: "t", Commit: greatest, Acts: acts[:n], At: at[:places]}}}
	}
	// What Dense and Back tell of so many is held where Make makes them.
	if err := project.Check(one(maxOps, maxOps)); err != api.OK {
		t.Error(err)
	}
	reject(t, one(maxOps+1, maxOps+1), api.ErrLong)
	reject(t, one(maxOps+1, 0), api.ErrLong)
	reject(t, one(maxOps, maxOps+1), api.ErrArg)
	several := api.Case{Names: []string{"a"}, First: []api.State{first(1)}}
	const each = maxOps / maxTrans
	for n := range maxTrans {
		// Two that are next to each other stand among each other.
		x := api.Trans{Name: "t" + strconv.Itoa(n), Begin: 4 * each * n, Acts: acts[:each]}
		for k := range each {
			x.At = append(x.At, x.Begin+1+k*5)
		}
		x.Commit = x.At[each-1] + 2
		several.Trans = append(several.Trans, x)
	}
	if trans, n := size(several); trans != maxTrans || n != maxOps {
		t.Fatal("the test itself is wrong:", trans, n)
	}
	if err := project.Check(several); err != api.OK {
		t.Error(err)
	}
	several.Trans[4095].Acts = acts[:each+1]
	reject(t, several, api.ErrLong)
	several.Trans[4095].Acts = acts[:each]
	several.Trans[0].Acts = acts[:each+1]
	reject(t, several, api.ErrLong)
	several.Trans[0].Acts = acts[:each-1]
	reject(t, several, api.ErrArg)
}

// TestFirstAsNames: there are as many First as Names.
func TestFirstAsNames(t *testing.T) {
	for n := range 12 {
		c := rooms()
		c.First = slices.Repeat(c.First, 3)[:n]
		if n == 5 {
			accept(t, c)
		} else {
			reject(t, c, api.ErrArg)
		}
	}
}

// TestNames: of objects, and of transactions, each name is one, and is there once; but an object and a transaction may share it.
func TestNames(t *testing.T) {
	for _, name := range noNames() {
		for i := range rooms().Names {
			rejectChanged(t, api.ErrName, func(c *api.Case) { c.Names[i] = name })
		}
		for i := range rooms().Trans {
			rejectChanged(t, api.ErrName, func(c *api.Case) { c.Trans[i].Name = name })
		}
		// What is no name is told ahead of what is there twice.
		rejectChanged(t, api.ErrName, func(c *api.Case) { c.Names[0], c.Names[1] = name, name })
		rejectChanged(t, api.ErrName, func(c *api.Case) { c.Trans[2].Name, c.Trans[3].Name = name, name })
	}
	for _, name := range []string{"z", "a_", "a0", "s_", "tt", strings.Repeat("z", 32), "x9_9"} {
		for i := range rooms().Names {
			acceptChanged(t, func(c *api.Case) { c.Names[i] = name })
		}
		for i := range rooms().Trans {
			acceptChanged(t, func(c *api.Case) { c.Trans[i].Name = name })
		}
	}
	for i, name := range rooms().Names {
		for k := range rooms().Names {
			if k != i {
				rejectChanged(t, api.ErrExists, func(c *api.Case) { c.Names[k] = name })
			}
		}
		for k := range rooms().Trans {
			if k != 2 && name != "c" {
				acceptChanged(t, func(c *api.Case) { c.Trans[k].Name = name })
			}
		}
	}
	for i := range rooms().Trans {
		for k := range rooms().Trans {
			if k != i {
				rejectChanged(t, api.ErrExists, func(c *api.Case) { c.Trans[k].Name = c.Trans[i].Name })
			}
		}
	}
	long := strings.Repeat("q", 31)
	acceptChanged(t, func(c *api.Case) {
		c.Names[0], c.Names[4], c.Trans[0].Name, c.Trans[1].Name = long+"1", long+"2", long+"1", long+"2"
	})
}

// TestStates: an object's first state is in its form, and has at most 1,000 numbers.
func TestStates(t *testing.T) {
	rise := make([]int, 1003)
	for i := range rise {
		rise[i] = i - 500
	}
	one := func(s api.State) api.Case { return api.Case{Names: []string{"a"}, First: []api.State{s}} }
	for _, kind := range []int{0, 6, -1, 16, greatest, least} {
		reject(t, one(api.State{Type: kind}), api.ErrType)
		reject(t, one(api.State{Type: kind, N: 7, L: rise}), api.ErrType)
	}
	for _, s := range []api.State{
		{Type: 1, L: []int{1}}, {Type: 2, N: 1}, first(2, 2, 1), first(2, 1, 1), {Type: 3, N: -1}, first(3, 1), first(3, 1, 2, 1, 3), first(3, 2, 1, 1, 1), {Type: 4, N: 1, L: []int{1}}, {Type: 5, L: []int{1}}, {Type: 5, N: -1}, {Type: 5, N: most + 1}, {Type: 5, N: greatest},
		// That it is not in its form is told ahead of its length.
		first(2, make([]int, 1001)...), first(3, make([]int, 1002)...), first(3, rise[:1001]...), {Type: 4, N: 1, L: rise}, first(1, rise...), first(5, rise...),
	} {
		reject(t, one(s), api.ErrForm)
	}
	for _, s := range []api.State{first(2, rise[:1001]...), first(3, rise[:1002]...), first(4, rise[:1001]...), first(4, make([]int, 1001)...), first(4, make([]int, 5000)...)} {
		reject(t, one(s), api.ErrLong)
	}
	for _, s := range []api.State{
		first(1), {Type: 1, N: least}, {Type: 1, N: greatest, L: []int{}}, first(2), first(2, least, 0, greatest), first(2, rise[:1000]...), first(3), first(3, 1, 1, 2, 1), first(3, rise[:1000]...), first(4), first(4, 1, 1), first(4, rise[:1000]...), first(4, make([]int, 1000)...), first(5), {Type: 5, N: most},
	} {
		accept(t, one(s))
	}
}

// TestAts: a transaction has as many places of operations as operations.
func TestAts(t *testing.T) {
	for i := range rooms().Trans {
		for n := range 6 {
			change := func(c *api.Case) {
				c.Trans[i].At = append(slices.Clone(c.Trans[i].At), 61, 62, 63, 64, 65, 66, 67)[:n]
			}
			if n == len(rooms().Trans[i].Acts) {
				acceptChanged(t, change)
			} else {
				rejectChanged(t, api.ErrArg, change)
			}
		}
		rejectChanged(t, api.ErrArg, func(c *api.Case) { c.Trans[i].Acts = append(c.Trans[i].Acts, act(0, 1)) })
	}
}

// TestBegins: begins rise, from 0 on.
func TestBegins(t *testing.T) {
	for i, x := range rooms().Trans {
		for _, n := range []int{-1, -2, least} {
			rejectChanged(t, api.ErrOrder, func(c *api.Case) { c.Trans[i].Begin = n })
		}
		if i == 0 {
			continue
		}
		ahead := rooms().Trans[i-1].Begin
		for n := range ahead + 1 {
			rejectChanged(t, api.ErrOrder, func(c *api.Case) { c.Trans[i].Begin = n })
		}
		acceptChanged(t, func(c *api.Case) { c.Trans[i].Begin = ahead + 1 })
		rejectChanged(t, api.ErrOrder, func(c *api.Case) { c.Trans[i-1], c.Trans[i] = c.Trans[i], c.Trans[i-1] })
		rejectChanged(t, api.ErrOrder, func(c *api.Case) { c.Trans[i-1].Begin = x.Begin })
	}
	for n := range 10 {
		acceptChanged(t, func(c *api.Case) { c.Trans[0].Begin = n })
	}
}

// TestRises: a transaction's begin, operations and commit rise.
func TestRises(t *testing.T) {
	numbers := []int{least, -1, 0, 1, 2, 3, most, greatest - 1, greatest}
	good := 0
	check := func(l ...int) {
		x := api.Trans{Name: "t", Begin: l[0], Commit: l[len(l)-1], At: l[1 : len(l)-1], Acts: slices.Repeat([]api.Act{act(0, 1)}, len(l)-2)}
		c := api.Case{Names: []string{"a"}, First: []api.State{first(1)}, Trans: []api.Trans{x}}
		if l[0] >= 0 && rising(l) {
			good++
			accept(t, c)
		} else {
			reject(t, c, api.ErrOrder)
		}
	}
	for _, a := range numbers {
		for _, b := range numbers {
			check(a, b)
			for _, c := range numbers {
				check(a, b, c)
				for _, d := range numbers {
					check(a, b, c, d)
				}
			}
		}
	}
	if good != 21+35+35 {
		t.Error("the test itself is wrong:", good)
	}
	for i, x := range rooms().Trans {
		rejectChanged(t, api.ErrOrder, func(c *api.Case) { c.Trans[i].Commit = x.Begin })
		rejectChanged(t, api.ErrOrder, func(c *api.Case) { c.Trans[i].Commit = x.Begin - 1 })
		all := spread(x)
		for k := range x.At {
			for _, n := range []int{all[k], all[k] - 1, all[k+2], all[k+2] + 1, x.Begin, x.Begin - 1, x.Commit, x.Commit + 1, least, greatest} {
				rejectChanged(t, api.ErrOrder, func(c *api.Case) { c.Trans[i].At[k] = n })
			}
			acceptChanged(t, func(c *api.Case) { c.Trans[i].At[k]-- })
		}
		if len(x.At) > 0 {
			rejectChanged(t, api.ErrOrder, func(c *api.Case) { c.Trans[i].Commit = x.At[len(x.At)-1] })
			rejectChanged(t, api.ErrOrder, func(c *api.Case) { c.Trans[i].Commit = x.At[len(x.At)-1] - 1 })
		}
	}
}

// TestObjectNumbers: an operation is on an object that is there.
func TestObjectNumbers(t *testing.T) {
	for i := range rooms().Trans {
		for k := range rooms().Trans[i].Acts {
			for _, n := range []int{-1, -2, least, 5, 6, 255, 256, greatest} {
				rejectChanged(t, api.ErrRange, func(c *api.Case) { c.Trans[i].Acts[k].Object = n })
				// That there is no such object is told ahead of what is wrong with the operation.
				rejectChanged(t, api.ErrRange, func(c *api.Case) { c.Trans[i].Acts[k] = api.Act{Object: n} })
			}
			for n := range 5 {
				acceptChanged(t, func(c *api.Case) { c.Trans[i].Acts[k] = act(n, kindOf(rooms().First[n].Type)) })
			}
		}
	}
	x := api.Trans{Name: "t", Commit: 2, At: []int{1}, Acts: []api.Act{act(0, 1)}}
	reject(t, api.Case{Trans: []api.Trans{x}}, api.ErrRange)
	accept(t, api.Case{Names: []string{"a"}, First: []api.State{first(1)}, Trans: []api.Trans{x}})
}

// TestOps: an operation may be, and is of its object's type.
func TestOps(t *testing.T) {
	bad := map[api.Errno][]api.Op{
		api.ErrWord:   {{}, {Kind: 16}, {Kind: -1}, {Kind: greatest}, {Kind: least, A: 1, Ret: told(1)}},
		api.ErrArg:    {{Kind: 1, B: 1}, {Kind: 2, A: 1, Ret: told(1)}, {Kind: 6, A: 1, Ret: told(3)}, {Kind: 6, A: 1, Ret: told(-3)}, {Kind: 8, B: 1, Ret: told(1)}, {Kind: 11, A: 1}, {Kind: 13, A: -1, Ret: told(1)}, {Kind: 14, A: most + 1, Ret: told(1)}, {Kind: 15, B: 1, Ret: told(1)}},
		api.ErrReturn: {{Kind: 1, A: 5, Ret: told(1)}, {Kind: 2}, {Kind: 3, A: 5, Ret: told(2)}, {Kind: 4, Ret: told(-1)}, {Kind: 5}, {Kind: 6, Ret: told(-1)}, {Kind: 7}, {Kind: 8, Ret: api.Ret{Kind: 1, N: 1}}, {Kind: 10, Ret: api.Ret{N: 1}}, {Kind: 11, Ret: api.Ret{Kind: 3}}, {Kind: 12, Ret: told(most + 1)}, {Kind: 13, Ret: told(2)}, {Kind: 15, Ret: api.Ret{Kind: 1}}},
	}
	for i := range rooms().Trans {
		for k := range rooms().Trans[i].Acts {
			for err, l := range bad {
				for _, o := range l {
					// What is wrong with it is told ahead of its type: so it does not matter at which object.
					for n := range 5 {
						rejectChanged(t, err, func(c *api.Case) { c.Trans[i].Acts[k] = api.Act{Object: n, Op: o} })
					}
				}
			}
			for kind := 1; kind <= 15; kind++ {
				for n := range 5 {
					change := func(c *api.Case) { c.Trans[i].Acts[k] = act(n, kind) }
					if typeOf(kind) == n+1 {
						acceptChanged(t, change)
					} else {
						rejectChanged(t, api.ErrType, change)
					}
				}
			}
		}
	}
}

// TestLegalOrNot: whether an operation is legal at the object's state does not matter.
func TestLegalOrNot(t *testing.T) {
	accept(t, made(t, events(t, world()+"; begin t; op t c read -> 77; op t s has 1 -> 0; op t s size -> 0; op t m get 1 -> 5; op t q deq -> none; op t e balance -> 6; commit t")))
}

// TestPlaceTwice: no place is there twice, be it of a Begin, a Commit or an operation; it does not matter that objects stood there.
func TestPlaceTwice(t *testing.T) {
	for i, x := range rooms().Trans {
		for k, y := range rooms().Trans {
			if k <= i {
				continue
			}
			// Each of the later one's places but its begin is put, one by one, at each of the other one's that leaves it rising.
			for _, place := range spread(x) {
				for n := 1; n < len(spread(y)); n++ {
					l := spread(y)
					if l[n-1] >= place || n+1 < len(l) && l[n+1] <= place {
						continue
					}
					rejectChanged(t, api.ErrOrder, func(c *api.Case) { put(&c.Trans[k], n, place) })
				}
			}
			for _, place := range spread(y) {
				for n := 1; n < len(spread(x)); n++ {
					l := spread(x)
					if l[n-1] >= place || n+1 < len(l) && l[n+1] <= place {
						continue
					}
					rejectChanged(t, api.ErrOrder, func(c *api.Case) { put(&c.Trans[i], n, place) })
				}
			}
		}
	}
	op := func(name string, begin, at, commit int) api.Trans {
		return api.Trans{Name: name, Begin: begin, Commit: commit, At: []int{at}, Acts: []api.Act{act(0, 1)}}
	}
	for _, l := range [][]api.Trans{
		{op("t", 0, 2, 9), op("u", 2, 3, 4)}, {op("t", 0, 1, 2), op("u", 2, 3, 4)}, {op("t", 0, 3, 9), op("u", 1, 3, 4)}, {op("t", 0, 4, 9), op("u", 1, 3, 4)},
		{op("t", 0, 1, 4), op("u", 2, 4, 6)}, {op("t", 0, 1, 4), op("u", 2, 3, 4)}, {op("t", 0, 5, greatest), op("u", 1, 6, greatest)}, {op("t", 0, 5, 6), op("u", 1, 8, 10), op("v", 2, 7, 8)}, {op("t", 0, 5, 6), op("u", 1, 8, 10), op("v", 6, 7, 9)},
	} {
		reject(t, api.Case{Names: []string{"a"}, First: []api.State{first(1)}, Trans: l}, api.ErrOrder)
	}
	accept(t, api.Case{Names: []string{"a"}, First: []api.State{first(1)}, Trans: []api.Trans{op("t", 0, 2, 5), op("u", 1, 3, 4)}})
	// That a place is there twice is told last.
	rejectChanged(t, api.ErrType, func(c *api.Case) { c.Trans[1].Commit = 40; c.Trans[3].Acts[0].Object = 0 })
	rejectChanged(t, api.ErrName, func(c *api.Case) { c.Trans[1].Commit = 40; c.Trans[3].Name = "" })
}

// put puts the begin, an operation or the commit of a transaction, which are numbered from 0 on, at a place.
func put(t *api.Trans, n, place int) {
	switch {
	case n == 0:
		t.Begin = place
	case n <= len(t.At):
		t.At[n-1] = place
	default:
		t.Commit = place
	}
}

// TestWildCases: no call panics, whatever the case.
func TestWildCases(t *testing.T) {
	d := drawer(3)
	counts := map[api.Errno]int{}
	for range 30000 {
		c := d.wildCase()
		hold(t, c)
		counts[wrong(c)]++
	}
	for _, err := range []api.Errno{api.OK, api.ErrArg, api.ErrName, api.ErrExists, api.ErrForm, api.ErrType, api.ErrOrder} {
		if counts[err] < 100 {
			t.Error("the test itself is wrong:", counts)
		}
	}
}

// TestDrawnMistakes holds cases of drawn histories, in which one thing, or some, are changed.
func TestDrawnMistakes(t *testing.T) {
	d := drawer(4)
	counts := map[api.Errno]int{}
	for range 5000 {
		c := made(t, d.history(10+d.below(50)))
		if d.below(2) == 0 {
			c = d.sparse(c)
		}
		accept(t, c)
		for range 1 + d.below(2) {
			d.spoil(&c)
		}
		hold(t, c)
		counts[wrong(c)]++
	}
	for _, err := range []api.Errno{api.OK, api.ErrArg, api.ErrRange, api.ErrForm, api.ErrWord, api.ErrName, api.ErrType, api.ErrReturn, api.ErrExists, api.ErrOrder} {
		if counts[err] < 20 {
			t.Error("the test itself is wrong:", counts)
		}
	}
}

// spoil changes one thing of a case; mostly it may not be any more.
func (d *drawer) spoil(c *api.Case) {
	if len(c.First) > 0 && d.below(4) == 0 {
		i := d.below(len(c.First))
		switch d.below(4) {
		case 0:
			c.Names[i] = pick(d, append(noNames(), c.Names...))
		case 1:
			c.First = c.First[:i]
			c.Names = c.Names[:max(i, d.below(len(c.Names)+1))]
		case 2:
			c.First[i] = api.State{Type: d.below(7), N: d.anyNumber(), L: d.list(3)}
		case 3:
			c.First[i] = d.state(1 + d.below(5))
		}
		return
	}
	if len(c.Trans) == 0 {
		return
	}
	i := d.below(len(c.Trans))
	x, y := &c.Trans[i], &c.Trans[d.below(len(c.Trans))]
	switch d.below(6) {
	case 0:
		x.Name = pick(d, append(noNames(), y.Name, y.Name, y.Name))
	case 1:
		x.At = x.At[:d.below(len(x.At)+1)]
	case 2:
		put(x, d.below(len(x.At)+2), d.anyNumber())
	case 3, 4:
		put(x, d.below(len(x.At)+2), pick(d, spread(*y)))
	case 5:
		c.Trans = slices.Delete(c.Trans, i, i+1)
	}
	for k := range x.Acts {
		a := &x.Acts[k]
		switch d.below(10) {
		case 0:
			a.Object = pick(d, []int{-1, len(c.Names), d.below(len(c.Names) + 1)})
		case 1:
			a.Op = d.op(1 + d.below(15))
		case 2:
			a.Op.B = d.anyNumber()
		case 3:
			a.Op.Kind = pick(d, []int{0, 16, d.below(17)})
		case 4:
			a.Op.Ret.Kind = d.below(4)
		}
	}
}
