package fifo

import "armistice/api"

// numbers is a queue of numbers: it puts in, takes off and counts as its ring does.
type numbers struct {
	ring[int]
}

// hold is a queue of these numbers, in cells of its own, so that what is taken off stays where it was handed in.
func hold(l []int) *numbers {
	q := &numbers{}
	q.widen(len(l))
	for _, x := range l {
		q.put(x)
	}
	return q
}

// do does an operation of a kind that is a queue's, and tells what it returns.
func (q *numbers) do(kind, x int) api.Ret {
	switch kind {
	case api.Enq:
		q.put(x)
		return api.Ret{Kind: api.RetOK}
	case api.Deq:
		if first, there := q.take(); there {
			return api.Ret{Kind: api.RetNumber, N: first}
		}
		return api.Ret{Kind: api.RetNone}
	}
	return api.Ret{Kind: api.RetNumber, N: q.size()}
}

// list takes all off, and tells it.
func (q *numbers) list() []int {
	l := make([]int, 0, q.size())
	for x := range q.drain() {
		l = append(l, x)
	}
	return l
}
