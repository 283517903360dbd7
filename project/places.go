package project

import (
	"cmp"
	"slices"
	"strings"

	"armistice/api"
)

// placed is an event, and where it stands.
type placed struct {
	at int
	api.Event
}

// spots tells how many places a case has, one that is there twice being two.
func spots(c api.Case) int {
	trans, acts := Size(c)
	return 2*trans + acts
}

// places tells all places of a case, in order. Each operation must have its place.
func places(c api.Case) []int {
	l := make([]int, 0, spots(c))
	for _, t := range c.Trans {
		l = append(l, t.Begin, t.Commit)
		l = append(l, t.At...)
	}
	slices.Sort(l)
	return l
}

// standing tells the events of a case's transactions, place by place. No two stand at one place: so there is just one such order.
func standing(c api.Case, objects []string) []placed {
	l := make([]placed, 0, spots(c))
	for _, t := range c.Trans {
		l = lay(l, t, objects)
	}
	slices.SortFunc(l, func(a, b placed) int { return cmp.Compare(a.at, b.at) })
	return l
}

// lay puts a transaction's events behind those that are there.
func lay(l []placed, t api.Trans, objects []string) []placed {
	name := strings.Clone(t.Name)
	l = append(l, placed{t.Begin, api.Event{Kind: api.EventBegin, Name: name}})
	for i, a := range t.Acts {
		l = append(l, placed{t.At[i], api.Event{Kind: api.EventOp, Name: name, Object: objects[a.Object], Op: a.Op}})
	}
	return append(l, placed{t.Commit, api.Event{Kind: api.EventCommit, Name: name}})
}
