package set

import (
	"iter"

	"armistice/api"
)

// list is a set's numbers, rising.
type list []int

// kinds tells what each kind does, by the kinds' numbers: what a list is then, and what is returned. Below Insert none is a set's.
func kinds() [api.Size + 1]func(list, int) (list, int) {
	return [...]func(list, int) (list, int){
		api.Insert: list.insert,
		api.Remove: list.remove,
		api.Has:    list.has,
		api.Size:   list.size,
	}
}

func (l list) insert(x int) (list, int) {
	then := l.with(x)
	return then, len(then) - len(l)
}

func (l list) remove(x int) (list, int) {
	then := l.without(x)
	return then, len(l) - len(then)
}

func (l list) has(x int) (list, int) {
	if _, there := l.find(x); there {
		return l.again(), 1
	}
	return l.again(), 0
}

// size takes an argument only because the other kinds do.
func (l list) size(int) (list, int) { return l.again(), len(l) }

// span is the places from first to last, both of them too. A list has one place more than it has numbers: the one behind all.
type span struct{ first, last int }

// halves tells in which half of a list's places x has its own, in which half of that one, and so on, till one place is left. Each has fewer places than the one ahead, so that it ends at a list that does not rise, too.
func (l list) halves(x int) iter.Seq[span] {
	return func(yield func(span) bool) {
		half := span{last: len(l)}
		for half.first < half.last {
			if middle := half.first + (half.last-half.first)/2; l[middle] < x {
				half.first = middle + 1
			} else {
				half.last = middle
			}
			if !yield(half) {
				return
			}
		}
	}
}

func (l list) find(x int) (int, bool) {
	// Where there are no numbers, nothing is halved, and the first place is the one.
	place := 0
	for half := range l.halves(x) {
		place = half.first
	}
	return place, place < len(l) && l[place] == x
}

func (l list) with(x int) list {
	place, there := l.find(x)
	if there {
		return l.again()
	}
	then := append(make(list, 0, len(l)+1), l[:place]...)
	then = append(then, x)
	return append(then, l[place:]...)
}

func (l list) without(x int) list {
	place, there := l.find(x)
	if !there {
		return l.again()
	}
	then := append(make(list, 0, len(l)-1), l[:place]...)
	return append(then, l[place+1:]...)
}

// again tells the same numbers in memory of their own, so that what is done to an answer does not come back to who handed them in.
func (l list) again() list { return append(make(list, 0, len(l)), l...) }
