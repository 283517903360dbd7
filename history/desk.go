package history

import (
	"strings"

	"armistice/api"
)

// runs is where a transaction ends that has not.
const runs = -1

// object is what must be known of an object: its type, of which the operations at it are.
type object struct {
	name string
	kind int
}

// Desk is events, as they come: what later ones hang on. New makes it.
type Desk struct {
	self        *Desk // who New answered: a copy has it too, and is none
	objects     registry[object]
	trans       registry[api.Life]
	events, ops int
}

// New makes a desk without events.
func New() *Desk {
	d := &Desk{objects: open[object](), trans: open[api.Life]()}
	d.self = d
	return d
}

// made tells whether New answered d.
func (d *Desk) made() bool { return d != nil && d.self == d }

// Add lays an event, if it may follow.
func (d *Desk) Add(e api.Event) api.Errno {
	if !d.made() {
		return api.ErrNil
	}
	if err := d.against(e); err != api.OK {
		return err
	}
	d.take(e)
	return api.OK
}

// take lays an event that may follow.
func (d *Desk) take(e api.Event) {
	switch e.Kind {
	case api.EventObject:
		// What was handed in is not kept: a name may be a piece of a great text.
		name := strings.Clone(e.Name)
		d.objects.add(name, object{name: name, kind: e.First.Type})
	case api.EventBegin:
		name := strings.Clone(e.Name)
		d.trans.add(name, api.Life{Name: name, Begin: d.events, End: runs})
	case api.EventOp:
		d.trans.of(e.Name).Ops++
		d.ops++
	case api.EventCommit, api.EventAbort:
		life := d.trans.of(e.Name)
		life.End, life.Committed = d.events, e.Kind == api.EventCommit
	}
	d.events++
}

// Len tells how many events there are.
func (d *Desk) Len() int {
	if !d.made() {
		return 0
	}
	return d.events
}

// Running tells the names of those that run.
func (d *Desk) Running() []string {
	if !d.made() {
		return nil
	}
	var names []string
	for life := range d.trans.all() {
		if life.End == runs {
			names = append(names, strings.Clone(life.Name))
		}
	}
	return names
}

// Life tells how a transaction lives, if it began.
func (d *Desk) Life(name string) (api.Life, bool) {
	if !d.made() {
		return api.Life{}, false
	}
	kept := d.trans.of(name)
	if kept == nil {
		return api.Life{}, false
	}
	life := *kept
	// An answer is new memory: its name is not the desk's own.
	life.Name = strings.Clone(life.Name)
	return life, true
}
