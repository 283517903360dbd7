package fifo

import (
	"slices"
	"testing"
)

// texts are put into rings, for a ring is not of numbers alone.
func texts() []string {
	return []string{"a", "b", "c", "d", "e", "f", "g", "h", "i"}
}

// turned is an empty ring of so many cells, whose next one comes into the cell at; then count texts are put in.
func turned(t *testing.T, cells, at, count int) *ring[string] {
	t.Helper()
	r := &ring[string]{}
	r.widen(cells)
	for range at {
		r.put("gone")
		r.take()
	}
	if len(r.cells) != cells || r.at != at || r.size() != 0 {
		t.Fatalf("%d cells, the next one at %d: %v", cells, at, r)
	}
	for _, text := range texts()[:count] {
		r.put(text)
	}
	return r
}

// expectAll drains a ring: what is told must be the first count texts, and nothing left.
func expectAll(t *testing.T, r *ring[string], count int) {
	t.Helper()
	if r.size() != count {
		t.Errorf("%v: size %d; want %d", r, r.size(), count)
	}
	if got := slices.Collect(r.drain()); !slices.Equal(got, texts()[:count]) || r.size() != 0 {
		t.Errorf("drained %v, and %d left; want %v", got, r.size(), texts()[:count])
	}
	if text, there := r.take(); there || text != "" || r.size() != 0 {
		t.Errorf("of none %q is taken off, and %d left", text, r.size())
	}
}

// TestRingGoesRound: wherever the first one lies, what is put in comes off in its order, and no cells are laid anew while there are enough.
func TestRingGoesRound(t *testing.T) {
	for cells := 1; cells <= 5; cells++ {
		for at := range cells {
			for count := range cells + 1 {
				r := turned(t, cells, at, count)
				if len(r.cells) != cells || r.at != at {
					t.Errorf("%d into %d cells from %d: %v", count, cells, at, r)
				}
				expectAll(t, r, count)
			}
		}
	}
}

// TestRingWidens: wherever the first one lies, more go in than there are cells.
func TestRingWidens(t *testing.T) {
	for cells := 1; cells <= 5; cells++ {
		for at := range cells {
			for count := cells + 1; count <= len(texts()); count++ {
				expectAll(t, turned(t, cells, at, count), count)
			}
		}
	}
	for count := range len(texts()) + 1 {
		expectAll(t, turned(t, 0, 0, count), count)
	}
}

// TestRingWithFreeCells: who widens a ring that has free cells loses nothing, either.
func TestRingWithFreeCells(t *testing.T) {
	for cells := 1; cells <= 5; cells++ {
		for at := range cells {
			for count := range cells + 1 {
				for more := range 4 {
					r := turned(t, cells, at, count)
					r.widen(more)
					if len(r.cells) != count+more {
						t.Errorf("%d of %d cells, and %d more: %d cells", count, cells, more, len(r.cells))
					}
					for _, text := range texts()[count:] {
						r.put(text)
					}
					expectAll(t, r, len(texts()))
				}
			}
		}
	}
}

// TestRingStaysSmall: of many that go through, but are few at once, few cells are made; of many puts few lay them anew.
func TestRingStaysSmall(t *testing.T) {
	r := &ring[int]{}
	for i := range 10000 {
		r.put(i)
		if x, there := r.take(); !there || x != i {
			t.Fatalf("%d, %v; want %d", x, there, i)
		}
	}
	if len(r.cells) != 1 {
		t.Errorf("%d cells for one", len(r.cells))
	}
	widened := 0
	for i := range 10000 {
		had := len(r.cells)
		r.put(i)
		if len(r.cells) != had {
			widened++
		}
	}
	if widened > 14 || len(r.cells) > 20001 {
		t.Errorf("widened %d times, to %d cells", widened, len(r.cells))
	}
}

// TestRingLeft: who stops draining leaves the rest in, and who goes on finds it; what is told was taken off at that time.
func TestRingLeft(t *testing.T) {
	for count := 1; count <= 5; count++ {
		for stop := range count {
			r := turned(t, 5, 3, count)
			told := 0
			for text := range r.drain() {
				if text != texts()[told] || r.size() != count-told-1 {
					t.Errorf("%q with %d left; want %q with %d", text, r.size(), texts()[told], count-told-1)
				}
				if told == stop {
					break
				}
				told++
			}
			if got := slices.Collect(r.drain()); !slices.Equal(got, texts()[stop+1:count]) {
				t.Errorf("%v are left; want %v", got, texts()[stop+1:count])
			}
		}
	}
}

// TestRingZero: the zero value is an empty queue.
func TestRingZero(t *testing.T) {
	var r ring[string]
	if text, there := r.take(); there || text != "" || r.size() != 0 {
		t.Errorf("%q, %v, %d", text, there, r.size())
	}
	for text := range r.drain() {
		t.Errorf("drained %q", text)
	}
	r.put("a")
	expectAll(t, &r, 1)
}

// TestNumbersAreARing: a queue of numbers does by its ring, in cells of its own: neither a change of what was handed in is seen, nor does one that goes round come there.
func TestNumbersAreARing(t *testing.T) {
	l := []int{4, 4, -1}
	q := hold(l)
	if q.size() != 3 || q.ring.size() != 3 {
		t.Errorf("%d, %d; want 3", q.size(), q.ring.size())
	}
	if x, there := q.ring.take(); x != 4 || !there {
		t.Errorf("%d, %v is taken off", x, there)
	}
	q.put(9)
	if !slices.Equal(l, []int{4, 4, -1}) {
		t.Errorf("what was handed in has become %v", l)
	}
	l[1], l[2] = 77, 77
	if got := q.list(); !slices.Equal(got, []int{4, -1, 9}) || q.size() != 0 || len(q.list()) != 0 {
		t.Errorf("%v, and %d left", got, q.size())
	}
}
