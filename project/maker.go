package project

import (
	"strings"

	"armistice/api"
	"armistice/names"
)

// maker puts a case together, event by event.
type maker struct {
	made      api.Case
	objects   *names.Table
	committed map[string]*api.Trans
}

// open lays each transaction that commits, still without operations. Lives come in the order of the begins: so they do here.
func open(lives []api.Life) *maker {
	m := &maker{objects: names.New(), committed: map[string]*api.Trans{}}
	for _, life := range lives {
		if life.Committed {
			m.made.Trans = append(m.made.Trans, api.Trans{
				Name: life.Name, Begin: life.Begin, Commit: life.End,
				Acts: make([]api.Act, 0, life.Ops), At: make([]int, 0, life.Ops),
			})
		}
	}
	// A list that grows moves what stands in it: so it is pointed to when it is whole.
	for i := range m.made.Trans {
		t := &m.made.Trans[i]
		m.committed[t.Name] = t
	}
	return m
}

// take lays an event of a history: an object, or an operation of who commits. All else is told by the lives.
func (m *maker) take(at int, e api.Event) {
	switch e.Kind {
	case api.EventObject:
		// A history has no two objects of one name, and fewer than a table takes: so there is no error here, nor below.
		m.objects.Add(e.Name)
		m.made.Names = append(m.made.Names, strings.Clone(e.Name))
		m.made.First = append(m.made.First, copyState(e.First))
	case api.EventOp:
		if t := m.committed[e.Name]; t != nil {
			object, _ := m.objects.Of(e.Object)
			t.Acts = append(t.Acts, api.Act{Object: object, Op: e.Op})
			t.At = append(t.At, at)
		}
	}
}
