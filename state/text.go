package state

import (
	"strings"

	"armistice/api"
	"armistice/number"
)

// space stands between two parts of a text.
const space = " "

// Text tells a state's text.
func Text(s api.State) (string, api.Errno) {
	if e := Check(s); e != api.OK {
		return "", e
	}
	text := []byte(words[s.Type])
	if single(s.Type) {
		text = appendTexts(text, s.N)
	} else {
		text = appendTexts(text, s.L...)
	}
	return string(text), api.OK
}

// single tells whether a state of that type is one number, N, and not those of L.
func single(kind int) bool { return kind == api.Counter || kind == api.Escrow }

// appendTexts writes the text of each of l behind text, each behind one space.
func appendTexts(text []byte, l ...int) []byte {
	for _, n := range l {
		text = append(text, space...)
		text = append(text, number.Put(n)...)
	}
	return text
}

// Read tells the state of a text.
func Read(text string) (api.State, api.Fault) {
	word, _, _ := strings.Cut(text, space)
	kind := typeOf(word)
	if !known(kind) {
		return api.State{}, api.Fault{Err: api.ErrWord}
	}
	l, fault := numbersBehind(text, len(word))
	if fault.Err != api.OK {
		return api.State{}, fault
	}
	s, ok := stateOf(kind, l)
	if !ok {
		return api.State{}, api.Fault{Err: api.ErrForm}
	}
	return s, api.Fault{}
}

// typeOf tells the type of a word; 0, if it is no type's.
func typeOf(word string) int {
	for kind, w := range words {
		if w == word {
			return kind
		}
	}
	return 0
}

// numbersBehind tells the numbers of the parts behind at, where a space or the end is.
func numbersBehind(text string, at int) ([]int, api.Fault) {
	var l []int
	for at < len(text) {
		at += len(space)
		part, _, _ := strings.Cut(text[at:], space)
		n, fault := number.Get(part)
		if fault.Err != api.OK {
			return nil, api.Fault{Err: fault.Err, At: at + fault.At}
		}
		l = append(l, n)
		at += len(part)
	}
	return l, api.Fault{}
}

// stateOf tells the state that a type and numbers make, and whether they make one in its form.
func stateOf(kind int, l []int) (api.State, bool) {
	s := api.State{Type: kind, L: l}
	if single(kind) {
		if len(l) != 1 {
			return api.State{}, false
		}
		s = api.State{Type: kind, N: l[0]}
	}
	return s, Check(s) == api.OK
}
