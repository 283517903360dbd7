package names_test

import (
	"math"
	"regexp"
	"slices"
	"sort"
	"strconv"
	"strings"
	"testing"
	"unsafe"

	"armistice/api"
	"armistice/names"
)

// The calls must keep the chapter's signatures.
var (
	_ func(string) api.Errno                      = names.Check
	_ func() *names.Table                         = names.New
	_ func(*names.Table, string) (int, api.Errno) = (*names.Table).Add
	_ func(*names.Table, string) (int, api.Errno) = (*names.Table).Of
	_ func(*names.Table, int) (string, api.Errno) = (*names.Table).Name
	_ func(*names.Table) int                      = (*names.Table).Len
	_ func(*names.Table) []int                    = (*names.Table).Order
)

// nameShape is a name as the chapter's words tell it.
var nameShape = regexp.MustCompile(`\A[a-z][a-z0-9_]{0,31}\z`)

// checked is what Check must answer.
func checked(s string) api.Errno {
	if nameShape.MatchString(s) {
		return api.OK
	}
	return api.ErrName
}

func expectCheck(t *testing.T, s string) {
	t.Helper()
	if e, want := names.Check(s), checked(s); e != want {
		t.Errorf("Check(%.60q of %d bytes): %v; want %v", s, len(s), e, want)
	}
}

func expectAdd(t *testing.T, x *names.Table, s string, n int, want api.Errno) {
	t.Helper()
	if got, e := x.Add(s); got != n || e != want {
		t.Errorf("Add(%.60q): %d, %v; want %d, %v", s, got, e, n, want)
	}
}

func expectOf(t *testing.T, x *names.Table, s string, n int, want api.Errno) {
	t.Helper()
	if got, e := x.Of(s); got != n || e != want {
		t.Errorf("Of(%.60q): %d, %v; want %d, %v", s, got, e, n, want)
	}
}

func expectName(t *testing.T, x *names.Table, n int, s string, want api.Errno) {
	t.Helper()
	if got, e := x.Name(n); got != s || e != want {
		t.Errorf("Name(%d): %q, %v; want %q, %v", n, got, e, s, want)
	}
}

// expectHolds holds all that a table tells against the names that came, in the order in which they came.
func expectHolds(t *testing.T, x *names.Table, came []string) {
	t.Helper()
	if x.Len() != len(came) {
		t.Errorf("Len of %d names: %d", len(came), x.Len())
	}
	for n, s := range came {
		expectName(t, x, n, s, api.OK)
		expectOf(t, x, s, n, api.OK)
	}
	expectName(t, x, -1, "", api.ErrRange)
	expectName(t, x, len(came), "", api.ErrRange)
	if order, want := x.Order(), ordered(came); !slices.Equal(order, want) {
		t.Errorf("Order of %.200q: %v; want %v", came, order, want)
	}
}

// ahead tells whether a is ahead of b as the chapter says it: byte by byte, and one that begins the other one is ahead.
func ahead(a, b string) bool {
	for i := 0; i < len(a) && i < len(b); i++ {
		if a[i] != b[i] {
			return a[i] < b[i]
		}
	}
	return len(a) < len(b)
}

// ordered is what Order must answer of names that came.
func ordered(came []string) []int {
	out := make([]int, len(came))
	for i := range out {
		out[i] = i
	}
	sort.Slice(out, func(i, j int) bool { return ahead(came[out[i]], came[out[j]]) })
	return out
}

// filled is a table to which those names came.
func filled(t *testing.T, came ...string) *names.Table {
	t.Helper()
	x := names.New()
	for i, s := range came {
		expectAdd(t, x, s, i, api.OK)
	}
	return x
}

// many are n names, none of which comes in order.
func many(n int) []string {
	var out []string
	for i := range n {
		out = append(out, "n"+strconv.Itoa((i*7919)%n))
	}
	return out
}

// TestExamples holds the chapter's table.
func TestExamples(t *testing.T) {
	x := names.New()
	expectAdd(t, x, "b", 0, api.OK)
	expectAdd(t, x, "a", 1, api.OK)
	expectAdd(t, x, "b", 0, api.ErrExists)
	expectAdd(t, x, "A", 0, api.ErrName)
	if n := x.Len(); n != 2 {
		t.Errorf("Len: %d", n)
	}
	if o := x.Order(); !slices.Equal(o, []int{1, 0}) {
		t.Errorf("Order: %v", o)
	}
	expectOf(t, x, "a", 1, api.OK)
	expectOf(t, x, "c", 0, api.ErrUnknown)
	expectName(t, x, 0, "b", api.OK)
	expectName(t, x, 2, "", api.ErrRange)
	for s, want := range map[string]api.Errno{"a_1": api.OK, "1a": api.ErrName, "_": api.ErrName, "": api.ErrName} {
		if e := names.Check(s); e != want {
			t.Errorf("Check(%q): %v; want %v", s, e, want)
		}
	}
}

// P3.1: what Check takes.

func TestCheckLengths(t *testing.T) {
	for size, want := range map[int]api.Errno{0: api.ErrName, 1: api.OK, 2: api.OK, 31: api.OK, 32: api.OK, 33: api.ErrName, 34: api.ErrName, 64: api.ErrName, 1 << 20: api.ErrName} {
		if e := names.Check(strings.Repeat("a", size)); e != want {
			t.Errorf("Check of %d letters: %v; want %v", size, e, want)
		}
	}
}

func TestCheckEachByte(t *testing.T) {
	letters, later := 0, 0
	for b := range 256 {
		x := string([]byte{byte(b)})
		for _, s := range []string{x, x + "a", x + x, "a" + x, "a" + x + "a", "ab_9" + x, strings.Repeat("z", 31) + x, x + strings.Repeat("z", 31), "a" + x + strings.Repeat("0", 30)} {
			expectCheck(t, s)
		}
		if names.Check(x) == api.OK {
			letters++
		}
		if names.Check("a"+x) == api.OK {
			later++
		}
	}
	if letters != 26 || later != 37 {
		t.Errorf("%d bytes may be first, %d later; want 26, 37", letters, later)
	}
}

func TestCheckPairsOfBytes(t *testing.T) {
	for a := range 256 {
		for b := range 256 {
			expectCheck(t, string([]byte{byte(a), byte(b)}))
		}
	}
}

func TestCheckWrong(t *testing.T) {
	for _, s := range []string{" ", "a ", " a", "a b", "a\n", "\na", "a\x00", "a-b", "a.b", "a#", "#a", "aB", "Ab", "ä", "aä", "é9", "a\u0660", "a\u212a", "０", "a０", "_a", "0", "9z", "a\xff", "a`", "a{", "`", "{", "a/", "a:", strings.Repeat("a", 32) + "_", strings.Repeat("a", 33) + " "} {
		if e := names.Check(s); e != api.ErrName {
			t.Errorf("Check(%q): %v; want ErrName", s, e)
		}
	}
}

func TestNewIsEmpty(t *testing.T) {
	x := names.New()
	if x == nil {
		t.Fatal("New answers nil")
	}
	if x.Len() != 0 || len(x.Order()) != 0 {
		t.Errorf("a new table: Len %d, Order %v", x.Len(), x.Order())
	}
	expectOf(t, x, "a", 0, api.ErrUnknown)
	expectName(t, x, 0, "", api.ErrRange)
	expectAdd(t, x, "a", 0, api.OK)
	expectHolds(t, names.New(), nil)
}

func TestOrderOfBeginnings(t *testing.T) {
	for _, c := range []struct {
		came []string
		want []int
	}{
		{[]string{"a"}, []int{0}},
		{[]string{"a", "ab"}, []int{0, 1}},
		{[]string{"ab", "a"}, []int{1, 0}},
		{[]string{"ab_", "ab0", "ab", "aba", "a"}, []int{4, 2, 1, 0, 3}},
		{[]string{"b", "aaaa"}, []int{1, 0}},
		{[]string{"n10", "n9", "n1", "n"}, []int{3, 2, 0, 1}},
		{[]string{"a_", "aa", "a9", "az", "a0"}, []int{4, 2, 0, 1, 3}},
		{[]string{strings.Repeat("z", 32), strings.Repeat("z", 31), "z"}, []int{2, 1, 0}},
		{[]string{strings.Repeat("z", 31) + "b", strings.Repeat("z", 31) + "a"}, []int{1, 0}},
	} {
		x := filled(t, c.came...)
		if o := x.Order(); !slices.Equal(o, c.want) {
			t.Errorf("Order of %q: %v; want %v", c.came, o, c.want)
		}
		expectHolds(t, x, c.came)
	}
}

// TestOrderIsNewMemory: whoever changes an answer changes neither the table nor another answer.
func TestOrderIsNewMemory(t *testing.T) {
	came := many(100)
	x := filled(t, came...)
	first, second := x.Order(), x.Order()
	whole := first[:cap(first)]
	for i := range whole {
		whole[i] = -1
	}
	if !slices.Equal(second, ordered(came)) {
		t.Error("two answers of Order share memory")
	}
	expectHolds(t, x, came)
}

// P3.2: Add, Of and Name.

func TestAddTellsErrorsInOrder(t *testing.T) {
	x := filled(t, "a", "b")
	for _, s := range []string{"", "A", "_", "1", "a b", strings.Repeat("a", 33), "a\n", "\xff"} {
		expectAdd(t, x, s, 0, api.ErrName)
	}
	expectAdd(t, x, "a", 0, api.ErrExists)
	expectAdd(t, x, "b", 0, api.ErrExists)
	expectHolds(t, x, []string{"a", "b"})
	expectAdd(t, x, strings.Repeat("a", 32), 2, api.OK)
	expectAdd(t, x, strings.Repeat("a", 32), 0, api.ErrExists)
	expectAdd(t, x, "aa", 3, api.OK)
	expectHolds(t, x, []string{"a", "b", strings.Repeat("a", 32), "aa"})
}

func TestFullTable(t *testing.T) {
	came := many(5000)
	x := filled(t, came[:4999]...)
	expectHolds(t, x, came[:4999])
	expectAdd(t, x, came[4999], 4999, api.OK)
	for range 2 {
		expectAdd(t, x, "one_more", 0, api.ErrFull)
		expectAdd(t, x, came[4999], 0, api.ErrExists)
		expectAdd(t, x, came[0], 0, api.ErrExists)
		expectAdd(t, x, "", 0, api.ErrName)
		expectAdd(t, x, "One_more", 0, api.ErrName)
		expectOf(t, x, "one_more", 0, api.ErrUnknown)
	}
	expectHolds(t, x, came)
	expectName(t, x, 5000, "", api.ErrRange)
	expectAdd(t, names.New(), "one_more", 0, api.OK)
}

func TestOfUnknown(t *testing.T) {
	x := filled(t, "a", "ab", "n1")
	for _, s := range []string{"", "A", "abc", "aa", "b", "n", "n10", "a ", " a", "a\x00", "_", strings.Repeat("a", 33), strings.Repeat("a", 1<<20), "\xff"} {
		expectOf(t, x, s, 0, api.ErrUnknown)
	}
	expectHolds(t, x, []string{"a", "ab", "n1"})
}

func TestNameOutOfRange(t *testing.T) {
	x := filled(t, "a", "b", "c")
	for _, n := range []int{-1, -2, -3, 3, 4, 4999, 5000, math.MaxInt, math.MinInt, math.MinInt + 1, 1 << 32, -1 << 32} {
		expectName(t, x, n, "", api.ErrRange)
	}
	expectHolds(t, x, []string{"a", "b", "c"})
}

// TestNoTable: rule 5, at each method; a copy of a table is none that New answered.
func TestNoTable(t *testing.T) {
	real := filled(t, "a", "b")
	copied := *real
	emptyCopy := *names.New()
	var within struct{ names.Table }
	overwritten, other := filled(t, "a"), filled(t, "a", "b", "c")
	*overwritten = *other
	emptied := filled(t, "a")
	*emptied = names.Table{}
	for what, x := range map[string]*names.Table{
		"nil": nil, "a zero table": {}, "a new zero table": new(names.Table), "one within a struct": &within.Table,
		"a copy": &copied, "a copy of an empty one": &emptyCopy, "one overwritten by another one": overwritten, "one overwritten by nothing": emptied,
	} {
		t.Run(what, func(t *testing.T) {
			for _, s := range []string{"a", "b", "c", "", "A", strings.Repeat("a", 33)} {
				expectAdd(t, x, s, 0, api.ErrNil)
				expectOf(t, x, s, 0, api.ErrNil)
			}
			for _, n := range []int{-1, 0, 1, 5000, math.MinInt, math.MaxInt} {
				expectName(t, x, n, "", api.ErrNil)
			}
			if x.Len() != 0 || len(x.Order()) != 0 {
				t.Errorf("Len %d, Order %v", x.Len(), x.Order())
			}
		})
	}
	expectHolds(t, real, []string{"a", "b"})
	expectHolds(t, other, []string{"a", "b", "c"})
}

func TestTablesAreApart(t *testing.T) {
	x, y := names.New(), names.New()
	expectAdd(t, x, "a", 0, api.OK)
	expectAdd(t, y, "b", 0, api.OK)
	expectAdd(t, y, "a", 1, api.OK)
	expectHolds(t, x, []string{"a"})
	expectHolds(t, y, []string{"b", "a"})
}

// TestNothingIsKept: what was handed to Add may change later, and what Name answers is not the table's own memory.
func TestNothingIsKept(t *testing.T) {
	x := names.New()
	b := []byte("abc")
	s := unsafe.String(&b[0], len(b))
	expectAdd(t, x, s, 0, api.OK)
	copy(b, "xyz")
	expectHolds(t, x, []string{"abc"})
	expectOf(t, x, "xyz", 0, api.ErrUnknown)
	first, _ := x.Name(0)
	second, _ := x.Name(0)
	if unsafe.StringData(first) == unsafe.StringData(second) {
		t.Error("two answers of Name share memory")
	}
}

// P3.3: what follows.

// TestOneByOne: names and numbers belong together, while the table grows and behind refused calls.
func TestOneByOne(t *testing.T) {
	came := []string{"m", "b", "a", "z9", "a_", "a0", "zz", "c"}
	x := names.New()
	for i, s := range came {
		expectAdd(t, x, s, i, api.OK)
		expectAdd(t, x, s, 0, api.ErrExists)
		expectAdd(t, x, strings.ToUpper(s), 0, api.ErrName)
		expectHolds(t, x, came[:i+1])
	}
	seen := map[string]bool{}
	for n := range x.Len() {
		s, _ := x.Name(n)
		if seen[s] {
			t.Errorf("%q has two numbers", s)
		}
		seen[s] = true
		expectOf(t, x, s, n, api.OK)
	}
}

// eachOrder calls f with each order of list.
func eachOrder(list []string, f func([]string)) {
	var goOn func(done, left []string)
	goOn = func(done, left []string) {
		if len(left) == 0 {
			f(done)
		}
		for i := range left {
			goOn(append(slices.Clone(done), left[i]), slices.Delete(slices.Clone(left), i, i+1))
		}
	}
	goOn(nil, list)
}

// TestOrderHangsOnNamesAlone: whenever they came, the names are told in one order.
func TestOrderHangsOnNamesAlone(t *testing.T) {
	want := []string{"a", "a0", "a_", "aa", "b", "ba"}
	eachOrder(want, func(came []string) {
		x := filled(t, came...)
		var got []string
		for _, n := range x.Order() {
			s, _ := x.Name(n)
			got = append(got, s)
		}
		if !slices.Equal(got, want) {
			t.Errorf("%q came: %q; want %q", came, got, want)
		}
	})
}

// TestAllShortRuns holds each run of four Adds against a list of names that came.
func TestAllShortRuns(t *testing.T) {
	texts := []string{"b", "a", "ab", "a_", "", "A", "1a"}
	var run func(adds []string)
	run = func(adds []string) {
		if len(adds) < 4 {
			for _, s := range texts {
				run(append(slices.Clone(adds), s))
			}
			return
		}
		x := names.New()
		var came []string
		for _, s := range adds {
			switch {
			case checked(s) != api.OK:
				expectAdd(t, x, s, 0, api.ErrName)
			case slices.Contains(came, s):
				expectAdd(t, x, s, 0, api.ErrExists)
			default:
				expectAdd(t, x, s, len(came), api.OK)
				came = append(came, s)
			}
		}
		expectHolds(t, x, came)
	}
	run(nil)
}

func FuzzNames(f *testing.F) {
	f.Add("a b a A a_1", 1)
	f.Add("ab a  abc _", -1)
	f.Fuzz(func(t *testing.T, text string, n int) {
		x := names.New()
		var came []string
		for _, s := range strings.Split(text, " ") {
			expectCheck(t, s)
			got, e := x.Add(s)
			want := checked(s)
			if want == api.OK && slices.Contains(came, s) {
				want = api.ErrExists
			}
			if want == api.OK && len(came) == 5000 {
				want = api.ErrFull
			}
			if e != want || e == api.OK && got != len(came) || e != api.OK && got != 0 {
				t.Fatalf("Add(%q): %d, %v; want %v", s, got, e, want)
			}
			if e == api.OK {
				came = append(came, s)
			}
		}
		expectHolds(t, x, came)
		if n < 0 || n >= len(came) {
			expectName(t, x, n, "", api.ErrRange)
		}
	})
}
