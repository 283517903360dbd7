package fifo

import "iter"

// ring is a queue in cells that go round: behind the last cell comes the first one, so that nobody moves up when one is taken off. Its zero value is an empty queue.
type ring[T any] struct {
	cells     []T
	at, count int // where the first one is, and how many there are
}

func (r *ring[T]) size() int { return r.count }

// put puts x behind all. Cells are doubled when none is free, so that a long run of puts lays few of them anew.
func (r *ring[T]) put(x T) {
	if r.count == len(r.cells) {
		r.widen(r.count + 1)
	}
	r.cells[(r.at+r.count)%len(r.cells)] = x
	r.count++
}

// take takes the first one off, if there is one.
func (r *ring[T]) take() (T, bool) {
	var first T
	if r.count == 0 {
		return first, false
	}
	first = r.cells[r.at]
	r.at = (r.at + 1) % len(r.cells)
	r.count--
	return first, true
}

// drain tells what is taken off, one by one, till there is none; who stops ahead of that leaves the rest in.
func (r *ring[T]) drain() iter.Seq[T] {
	return func(yield func(T) bool) {
		for {
			first, there := r.take()
			if !there || !yield(first) {
				return
			}
		}
	}
}

// widen lays all into new cells, the first one first, with so many more behind. What free cells hold may come along: nobody looks at it.
func (r *ring[T]) widen(more int) {
	cells := make([]T, r.count+more)
	ahead := copy(cells, r.cells[r.at:])
	copy(cells[ahead:], r.cells[:r.at])
	r.cells, r.at = cells, 0
}
