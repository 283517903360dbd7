package project

import (
	"strings"

	"armistice/api"
)

// What is told shares nothing with what was handed in: lists are copied, and texts, which may be pieces of a great one.

func copyCase(c api.Case) api.Case {
	d := api.Case{Names: copyNames(c.Names), First: make([]api.State, 0, len(c.First)), Trans: make([]api.Trans, 0, len(c.Trans))}
	for _, s := range c.First {
		d.First = append(d.First, copyState(s))
	}
	for _, t := range c.Trans {
		t.Name, t.Acts, t.At = strings.Clone(t.Name), copyList(t.Acts), copyList(t.At)
		d.Trans = append(d.Trans, t)
	}
	return d
}

func copyNames(l []string) []string {
	names := make([]string, 0, len(l))
	for _, name := range l {
		names = append(names, strings.Clone(name))
	}
	return names
}

func copyState(s api.State) api.State {
	s.L = copyList(s.L)
	return s
}

// copyList copies an empty list, too: to be told as it is it would be kept.
func copyList[T any](l []T) []T { return append([]T(nil), l...) }
