package mapping

import "iter"

// width is how many numbers of a list a key and its value are.
const width = 2

// parts are what stands in a list ahead of a key and its value, and what behind them; and that value, if it is there.
type parts struct {
	ahead, behind []int
	value         int
	there         bool
}

// cut parts a list at a key; if it has no value, where it would stand. Keys rise, so that nobody looks beyond one that is greater.
func cut(l []int, key int) parts {
	p := parts{}
	at := 0
	for k, v := range entries(l) {
		if k == key {
			p.value, p.there = v, true
		}
		if k >= key {
			break
		}
		at += width
	}
	p.ahead, p.behind = l[:at], l[at:]
	if p.there {
		p.behind = p.behind[width:]
	}
	return p
}

// entries tells a list's keys, each with its value. In a list that is no map's a last one without a value is none.
func entries(l []int) iter.Seq2[int, int] {
	return func(yield func(int, int) bool) {
		for at := 0; at+1 < len(l); at += width {
			if !yield(l[at], l[at+1]) {
				return
			}
		}
	}
}
