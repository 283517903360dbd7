package history

import (
	"slices"
	"testing"
)

// thing is put into registries, for one is neither of objects nor of transactions alone.
type thing struct{ n int }

// TestRegistry: each thing is found by its name, and all are told as they came; what is told is the kept one.
func TestRegistry(t *testing.T) {
	r := open[thing]()
	if r.count() != 0 || r.of("a") != nil || r.of("") != nil {
		t.Error("of none:", r)
	}
	names := []string{"z", "a", "m", "b", "_", "y"}
	for n, name := range names {
		r.add(name, thing{n})
		if r.count() != n+1 {
			t.Errorf("%d things; want %d", r.count(), n+1)
		}
		for m, earlier := range names {
			if x := r.of(earlier); (x != nil) != (m <= n) || x != nil && x.n != m {
				t.Errorf("%d things, %s: %v", n+1, earlier, x)
			}
		}
	}
	r.of("m").n = 70
	var told []int
	for x := range r.all() {
		told = append(told, x.n)
	}
	if !slices.Equal(told, []int{0, 1, 70, 3, 4, 5}) {
		t.Error(told)
	}
}

// TestRegistryLeft: who stops is told no more.
func TestRegistryLeft(t *testing.T) {
	r := open[thing]()
	for n, name := range []string{"b", "a", "c"} {
		r.add(name, thing{n})
	}
	for stop := range 3 {
		told := 0
		for x := range r.all() {
			if x.n != told {
				t.Errorf("%d; want %d", x.n, told)
			}
			told++
			if x.n == stop {
				break
			}
		}
		if told != stop+1 {
			t.Errorf("%d were told; want %d", told, stop+1)
		}
	}
}

// TestTwoRegistries: two know nothing of each other.
func TestTwoRegistries(t *testing.T) {
	r, s := open[thing](), open[thing]()
	r.add("a", thing{1})
	if s.of("a") != nil || s.count() != 0 {
		t.Error(s)
	}
}
