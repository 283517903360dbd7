package number

import (
	"math/bits"

	"armistice/api"
)

// halves is a sum of 128 bits that goes round, the lower half first: no list is so long that its sum goes round there, so parts of it may go beyond all numbers and come back.
type halves [2]uint64

// All sums numbers, if that is a number.
func All(l ...int) (int, api.Errno) {
	sum := &halves{}
	for _, n := range l {
		sum.add(n)
	}
	return sum.number()
}

// add adds both halves of n, of which the upper one is all ones if n is below 0.
func (h *halves) add(n int) {
	low, carry := bits.Add64(h[0], uint64(n), 0)
	h[0], h[1] = low, h[1]+upper(n)+carry
}

// number tells the sum, if the upper half says no more than the sign of the lower one.
func (h *halves) number() (int, api.Errno) {
	n := int(h[0])
	if h[1] != upper(n) {
		return 0, api.ErrRange
	}
	return n, api.OK
}

// upper tells the upper half of a number of 128 bits that is n.
func upper(n int) uint64 {
	return uint64(n >> 63)
}
