package state

import "armistice/api"

// Of how many bytes the parts of a state's bytes are, and all that stands ahead of L's numbers.
const (
	typeBytes   = 1
	numberBytes = 8
	countBytes  = 4
	headBytes   = typeBytes + numberBytes + countBytes
)

// Encode tells a state's bytes.
func Encode(s api.State) ([]byte, api.Errno) {
	if e := Check(s); e != api.OK {
		return nil, e
	}
	b := make([]byte, 0, headBytes+numberBytes*len(s.L))
	b = appendBytes(b, typeBytes, s.Type)
	b = appendBytes(b, numberBytes, s.N)
	b = appendBytes(b, countBytes, len(s.L))
	return appendBytes(b, numberBytes, s.L...), api.OK
}

// appendBytes writes each of l in size bytes behind b, the highest first.
func appendBytes(b []byte, size int, l ...int) []byte {
	for _, n := range l {
		for i := range size {
			b = append(b, byte(n>>(8*(size-1-i))))
		}
	}
	return b
}

// Decode tells the state of which b is the bytes.
func Decode(b []byte) (api.State, api.Errno) {
	if !measured(b) {
		return api.State{}, api.ErrForm
	}
	s := api.State{Type: numberOf(b[:typeBytes]), N: numberOf(b[typeBytes : typeBytes+numberBytes])}
	for at := headBytes; at < len(b); at += numberBytes {
		s.L = append(s.L, numberOf(b[at:at+numberBytes]))
	}
	// Whatever is wrong with the state, a type that is none too, b is the bytes of none.
	if Check(s) != api.OK {
		return api.State{}, api.ErrForm
	}
	return s, api.OK
}

// measured tells whether b has as many numbers as its head says. A part of a number too many is more than that.
func measured(b []byte) bool {
	if len(b) < headBytes {
		return false
	}
	count := numberOf(b[headBytes-countBytes : headBytes])
	return len(b)-headBytes == numberBytes*count
}

// numberOf tells the number that is written in all of b; eight bytes make one below 0 just if the highest bit is set.
func numberOf(b []byte) int {
	n := uint64(0)
	for _, x := range b {
		n = n<<8 | uint64(x)
	}
	return int(n)
}
