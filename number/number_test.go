package number_test

import (
	"math"
	"math/big"
	"regexp"
	"slices"
	"strings"
	"testing"

	"armistice/api"
	"armistice/number"
)

// The calls must keep the chapter's signatures.
var (
	_ func(int) string                = number.Put
	_ func(string) (int, api.Fault)   = number.Get
	_ func(int, int) int              = number.Wrap
	_ func(int, int) (int, api.Errno) = number.Sum
	_ func(...int) (int, api.Errno)   = number.All
)

// edges are numbers about which a sign, a length or a sum changes.
func edges() []int {
	l := []int{math.MinInt, math.MinInt + 1, math.MinInt / 2, math.MaxInt/2 + 1, math.MaxInt / 2, math.MaxInt - 1, math.MaxInt, math.MinInt32, math.MaxInt32, math.MaxUint32}
	for n := range 12 {
		l = append(l, n, -n)
	}
	for p := 10; p < math.MaxInt/10; p *= 10 {
		l = append(l, p-1, p, p+1, -p-1, -p, 1-p)
	}
	for i := range 63 {
		l = append(l, 1<<i, -(1 << i), 1<<i-1)
	}
	slices.Sort(l)
	return slices.Compact(l)
}

// numbers are many, spread over all sizes, the same ones each time.
func numbers(count int) []int {
	l := make([]int, count)
	x := uint64(88172645463325252)
	for i := range l {
		x ^= x << 13
		x ^= x >> 7
		x ^= x << 17
		l[i] = int(x) >> (i % 64)
	}
	return l
}

// exact tells the sum of all of l as All must, worked out without bounds.
func exact(l ...int) (int, api.Errno) {
	sum := new(big.Int)
	for _, n := range l {
		sum.Add(sum, big.NewInt(int64(n)))
	}
	if !sum.IsInt64() {
		return 0, api.ErrRange
	}
	return int(sum.Int64()), api.OK
}

// P1.1: Put.
func TestPut(t *testing.T) {
	for _, x := range []struct {
		n    int
		want string
	}{
		{0, "0"}, {1, "1"}, {-1, "-1"}, {-7, "-7"}, {9, "9"}, {10, "10"}, {-10, "-10"}, {100, "100"}, {1020, "1020"}, {-9876543210, "-9876543210"},
		{math.MaxInt, "9223372036854775807"}, {math.MaxInt - 1, "9223372036854775806"},
		{math.MinInt, "-9223372036854775808"}, {math.MinInt + 1, "-9223372036854775807"},
		{1000000000000000000, "1000000000000000000"}, {-1000000000000000000, "-1000000000000000000"},
	} {
		if s := number.Put(x.n); s != x.want {
			t.Errorf("Put(%d): %q", x.n, s)
		}
	}
	for _, n := range append(edges(), numbers(2000)...) {
		if s := number.Put(n); s != big.NewInt(int64(n)).String() {
			t.Errorf("Put(%d): %q", n, s)
		}
	}
}

// P1.1: Get, of texts that are a number's.
func TestGet(t *testing.T) {
	for _, x := range []struct {
		s string
		n int
	}{
		{"0", 0}, {"7", 7}, {"-7", -7}, {"10", 10}, {"-10", -10}, {"1020", 1020},
		{"9223372036854775807", math.MaxInt}, {"-9223372036854775807", -math.MaxInt}, {"-9223372036854775808", math.MinInt},
	} {
		if n, f := number.Get(x.s); n != x.n || f != (api.Fault{}) {
			t.Errorf("Get(%q): %d %v", x.s, n, f)
		}
	}
}

// P1.1: Get, of texts that are not.
func TestGetFaults(t *testing.T) {
	for _, x := range []struct {
		s    string
		want api.Fault
	}{
		// Something is missing.
		{"", api.Fault{Err: api.ErrForm, At: 0}}, {"-", api.Fault{Err: api.ErrForm, At: 1}},
		// Noughts ahead.
		{"00", api.Fault{Err: api.ErrForm, At: 1}}, {"01", api.Fault{Err: api.ErrForm, At: 1}}, {"007", api.Fault{Err: api.ErrForm, At: 1}},
		{"-0", api.Fault{Err: api.ErrForm, At: 1}}, {"-00", api.Fault{Err: api.ErrForm, At: 1}}, {"-01", api.Fault{Err: api.ErrForm, At: 1}},
		// Bytes of no number.
		{"x", api.Fault{Err: api.ErrForm, At: 0}}, {"+1", api.Fault{Err: api.ErrForm, At: 0}}, {" 1", api.Fault{Err: api.ErrForm, At: 0}}, {"\x00", api.Fault{Err: api.ErrForm, At: 0}}, {"\xff", api.Fault{Err: api.ErrForm, At: 0}}, {"٣", api.Fault{Err: api.ErrForm, At: 0}},
		{"0x", api.Fault{Err: api.ErrForm, At: 1}}, {"0x10", api.Fault{Err: api.ErrForm, At: 1}}, {"1_0", api.Fault{Err: api.ErrForm, At: 1}}, {"1.0", api.Fault{Err: api.ErrForm, At: 1}}, {"1e3", api.Fault{Err: api.ErrForm, At: 1}}, {"1 ", api.Fault{Err: api.ErrForm, At: 1}}, {"1\n", api.Fault{Err: api.ErrForm, At: 1}}, {"1-", api.Fault{Err: api.ErrForm, At: 1}}, {"1é", api.Fault{Err: api.ErrForm, At: 1}},
		{"--1", api.Fault{Err: api.ErrForm, At: 1}}, {"-x", api.Fault{Err: api.ErrForm, At: 1}}, {"12x", api.Fault{Err: api.ErrForm, At: 2}}, {"12/", api.Fault{Err: api.ErrForm, At: 2}}, {"12:", api.Fault{Err: api.ErrForm, At: 2}}, {"-12x4", api.Fault{Err: api.ErrForm, At: 3}},
		// The form goes ahead of the range.
		{"9999999999999999999x", api.Fault{Err: api.ErrForm, At: 19}}, {"-999999999999999999x", api.Fault{Err: api.ErrForm, At: 19}}, {"00000000000000000000", api.Fault{Err: api.ErrForm, At: 1}},
		// Above and below all numbers; 2^64 and what is just above it would be small again.
		{"9223372036854775808", api.Fault{Err: api.ErrRange}}, {"-9223372036854775809", api.Fault{Err: api.ErrRange}}, {"9999999999999999999", api.Fault{Err: api.ErrRange}}, {"-9999999999999999999", api.Fault{Err: api.ErrRange}},
		{"10000000000000000000", api.Fault{Err: api.ErrRange}}, {"18446744073709551615", api.Fault{Err: api.ErrRange}}, {"18446744073709551616", api.Fault{Err: api.ErrRange}}, {"18446744073709551617", api.Fault{Err: api.ErrRange}}, {"99999999999999999999", api.Fault{Err: api.ErrRange}},
		// The length goes ahead of all.
		{"100000000000000000000", api.Fault{Err: api.ErrLong, At: 20}}, {"-99999999999999999999", api.Fault{Err: api.ErrLong, At: 20}}, {"000000000000000000007", api.Fault{Err: api.ErrLong, At: 20}}, {strings.Repeat("x", 21), api.Fault{Err: api.ErrLong, At: 20}}, {strings.Repeat("-", 1000), api.Fault{Err: api.ErrLong, At: 20}},
	} {
		if n, f := number.Get(x.s); n != 0 || f != x.want {
			t.Errorf("Get(%q): %d %v, not %v", x.s, n, f, x.want)
		}
	}
}

// got tells what Get must, by its words alone.
func got(s string) (int, api.Fault) {
	if len(s) > 20 {
		return 0, api.Fault{Err: api.ErrLong, At: 20}
	}
	for i := range len(s) {
		if !beginning.MatchString(s[:i+1]) {
			return 0, api.Fault{Err: api.ErrForm, At: i}
		}
	}
	if !whole.MatchString(s) {
		return 0, api.Fault{Err: api.ErrForm, At: len(s)}
	}
	n, _ := new(big.Int).SetString(s, 10)
	if !n.IsInt64() {
		return 0, api.Fault{Err: api.ErrRange}
	}
	return int(n.Int64()), api.Fault{}
}

var (
	beginning = regexp.MustCompile(`\A(0|-|-?[1-9][0-9]*)\z`)
	whole     = regexp.MustCompile(`\A(0|-?[1-9][0-9]*)\z`)
)

// P1.1, P1.3: Get, at all short texts, and at all that end so behind many digits; what is got is put as it was.
func TestGetEverywhere(t *testing.T) {
	const letters = "-+019/:x \x00\xb2"
	ahead := []string{"", "922337203685477580", "-922337203685477580", "1844674407370955161", "-999999999999999999"}
	texts := []string{""}
	for from := 0; len(texts[from]) < 4; from++ {
		for i := range len(letters) {
			texts = append(texts, texts[from]+letters[i:i+1])
		}
	}
	for _, a := range ahead {
		for _, x := range texts {
			s := a + x
			n, f := number.Get(s)
			if wantN, wantF := got(s); n != wantN || f != wantF {
				t.Fatalf("Get(%q): %d %v, not %d %v", s, n, f, wantN, wantF)
			}
			if f.Err == api.OK && number.Put(n) != s {
				t.Fatalf("Get(%q) is put as %q", s, number.Put(n))
			}
		}
	}
}

// P1.3: what is put is got.
func TestPutIsGot(t *testing.T) {
	for _, n := range append(edges(), numbers(2000)...) {
		if m, f := number.Get(number.Put(n)); m != n || f != (api.Fault{}) {
			t.Errorf("%d is got as %d %v", n, m, f)
		}
	}
}

// P1.2: Wrap.
func TestWrap(t *testing.T) {
	for _, x := range []struct{ a, b, want int }{
		{0, 0, 0}, {2, 3, 5}, {-5, 3, -2}, {math.MaxInt, 1, math.MinInt}, {math.MinInt, -1, math.MaxInt},
		{math.MaxInt, math.MaxInt, -2}, {math.MinInt, math.MinInt, 0}, {math.MaxInt, math.MinInt, -1}, {math.MaxInt, 0, math.MaxInt}, {math.MinInt, 0, math.MinInt},
	} {
		if n := number.Wrap(x.a, x.b); n != x.want {
			t.Errorf("Wrap(%d, %d): %d", x.a, x.b, n)
		}
	}
}

// P1.2: Sum.
func TestSum(t *testing.T) {
	for _, x := range []struct {
		a, b, want int
		err        api.Errno
	}{
		{0, 0, 0, api.OK}, {2, 3, 5, api.OK}, {-5, 3, -2, api.OK}, {math.MaxInt, math.MinInt, -1, api.OK},
		{math.MaxInt, 0, math.MaxInt, api.OK}, {math.MaxInt - 1, 1, math.MaxInt, api.OK}, {math.MinInt, 0, math.MinInt, api.OK}, {math.MinInt + 1, -1, math.MinInt, api.OK},
		{1 << 62, 1<<62 - 1, math.MaxInt, api.OK}, {-1 << 62, -1 << 62, math.MinInt, api.OK},
		{math.MaxInt, 1, 0, api.ErrRange}, {math.MinInt, -1, 0, api.ErrRange}, {1 << 62, 1 << 62, 0, api.ErrRange}, {-1 << 62, -1<<62 - 1, 0, api.ErrRange},
		{math.MaxInt, math.MaxInt, 0, api.ErrRange}, {math.MinInt, math.MinInt, 0, api.ErrRange},
	} {
		if n, e := number.Sum(x.a, x.b); n != x.want || e != x.err {
			t.Errorf("Sum(%d, %d): %d %v", x.a, x.b, n, e)
		}
	}
}

// P1.2, P1.3: Wrap hangs on no order, and is Sum where there is one; of two, All is Sum.
func TestTwo(t *testing.T) {
	two64 := new(big.Int).Lsh(big.NewInt(1), 64)
	for _, a := range edges() {
		for _, b := range edges() {
			wrapped, whole := number.Wrap(a, b), new(big.Int).Add(big.NewInt(int64(a)), big.NewInt(int64(b)))
			if wrapped != number.Wrap(b, a) {
				t.Fatalf("Wrap(%d, %d) hangs on the order", a, b)
			}
			if off := new(big.Int).Sub(whole, big.NewInt(int64(wrapped))); off.Rem(off, two64).Sign() != 0 {
				t.Fatalf("Wrap(%d, %d): %d", a, b, wrapped)
			}
			want, wantErr := exact(a, b)
			if n, e := number.Sum(a, b); n != want || e != wantErr || e == api.OK && n != wrapped {
				t.Fatalf("Sum(%d, %d): %d %v", a, b, n, e)
			}
			if n, e := number.All(a, b); n != want || e != wantErr {
				t.Fatalf("All(%d, %d): %d %v", a, b, n, e)
			}
		}
	}
}

// P1.3: Wrap of many hangs on no order.
func TestWrapInAnyOrder(t *testing.T) {
	l := append(edges(), numbers(500)...)
	there, back := 0, 0
	for i := range l {
		there, back = number.Wrap(there, l[i]), number.Wrap(l[len(l)-1-i], back)
	}
	if there != back {
		t.Errorf("%d and %d", there, back)
	}
}

// P1.2: All.
func TestAll(t *testing.T) {
	const most, least = math.MaxInt, math.MinInt
	for _, x := range []struct {
		l    []int
		want int
		err  api.Errno
	}{
		{nil, 0, api.OK}, {[]int{}, 0, api.OK}, {[]int{0}, 0, api.OK}, {[]int{-7}, -7, api.OK}, {[]int{1, 2, 3}, 6, api.OK}, {[]int{-1, -2, -3}, -6, api.OK}, {[]int{most}, most, api.OK}, {[]int{least}, least, api.OK},
		// Parts go beyond, and come back.
		{[]int{most, 1, -1}, most, api.OK}, {[]int{least, -1, 1}, least, api.OK}, {[]int{most, most, most, least, least, least}, -3, api.OK}, {[]int{least, least, most, most, 2}, 0, api.OK},
		{[]int{most, most, 2, least, least}, 0, api.OK}, {[]int{most, most, most, 1, least, least}, most - 1, api.OK},
		// They do not.
		{[]int{most, 1}, 0, api.ErrRange}, {[]int{least, -1}, 0, api.ErrRange}, {[]int{most, 1, -1, 1}, 0, api.ErrRange}, {[]int{least, 1, -1, -1}, 0, api.ErrRange},
		// 2^64 and its like, of which the lower half alone is a number.
		{[]int{most, most, 2}, 0, api.ErrRange}, {[]int{most, most, 3}, 0, api.ErrRange}, {[]int{most, most, 1}, 0, api.ErrRange}, {[]int{least, least}, 0, api.ErrRange}, {[]int{least, least, -1}, 0, api.ErrRange}, {[]int{least, least, 1}, 0, api.ErrRange}, {[]int{least, least, least, least}, 0, api.ErrRange}, {[]int{most, most, most, most, 4}, 0, api.ErrRange},
	} {
		if n, e := number.All(x.l...); n != x.want || e != x.err {
			t.Errorf("All(%v): %d %v", x.l, n, e)
		}
	}
}

// P1.2: All of very many.
func TestAllOfMany(t *testing.T) {
	const count = 1 << 20
	l := slices.Concat(slices.Repeat([]int{math.MaxInt}, count), slices.Repeat([]int{math.MinInt}, count))
	if n, e := number.All(l...); n != -count || e != api.OK {
		t.Errorf("%d %v", n, e)
	}
	if n, e := number.All(l[:count]...); n != 0 || e != api.ErrRange {
		t.Errorf("above: %d %v", n, e)
	}
	if n, e := number.All(l[count:]...); n != 0 || e != api.ErrRange {
		t.Errorf("below: %d %v", n, e)
	}
}

// P1.2, P1.3: All, in each order of four.
func TestAllInAnyOrder(t *testing.T) {
	few := []int{math.MinInt, math.MinInt + 1, -1 << 62, -2, -1, 0, 1, 2, 1 << 62, math.MaxInt - 1, math.MaxInt}
	for _, a := range few {
		for _, b := range few {
			for _, c := range few {
				for _, d := range few {
					n, e := number.All(a, b, c, d)
					if want, wantErr := exact(a, b, c, d); n != want || e != wantErr {
						t.Fatalf("All(%d, %d, %d, %d): %d %v", a, b, c, d, n, e)
					}
				}
			}
		}
	}
}

// What is handed in is neither changed nor kept, and its spare room is not read.
func TestAllLeavesItsList(t *testing.T) {
	room := []int{5, -3, math.MaxInt, 99, 98}
	if n, e := number.All(room[:2]...); n != 2 || e != api.OK {
		t.Errorf("%d %v", n, e)
	}
	number.All(room[:3]...)
	if !slices.Equal(room, []int{5, -3, math.MaxInt, 99, 98}) {
		t.Errorf("changed: %v", room)
	}
	if n, e := number.All(); n != 0 || e != api.OK {
		t.Errorf("something was kept: %d %v", n, e)
	}
}

// P1: no text is a panic, and each is told as the words say.
func FuzzGet(f *testing.F) {
	for _, s := range []string{"", "-", "0", "-0", "12", "9223372036854775808", "-9223372036854775808", "18446744073709551616", strings.Repeat("9", 21)} {
		f.Add(s)
	}
	f.Fuzz(func(t *testing.T, s string) {
		n, fault := number.Get(s)
		if wantN, wantF := got(s); n != wantN || fault != wantF {
			t.Errorf("Get(%q): %d %v, not %d %v", s, n, fault, wantN, wantF)
		}
	})
}
