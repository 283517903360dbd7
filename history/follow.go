package history

import (
	"armistice/api"
	"armistice/grammar"
	"armistice/operation"
)

// against tells why an event may not follow: what the first says that says no. Who is asked later relies on those ahead of it.
func (d *Desk) against(e api.Event) api.Errno {
	for _, ask := range []func(api.Event) api.Errno{d.askForm, d.askObject, d.askBegin, d.askRunning, d.askOp} {
		if err := ask(e); err != api.OK {
			return err
		}
	}
	return api.OK
}

// askForm tells why an event may not be, whatever it follows.
func (d *Desk) askForm(e api.Event) api.Errno { return grammar.Check(e) }

// askObject tells why an object may not follow.
func (d *Desk) askObject(e api.Event) api.Errno {
	if e.Kind != api.EventObject {
		return api.OK
	}
	if d.events > d.objects.count() {
		return api.ErrOrder
	}
	if d.objects.of(e.Name) != nil {
		return api.ErrExists
	}
	if d.objects.count() >= api.MaxObjects {
		return api.ErrLong
	}
	return api.OK
}

// askBegin tells why a begin may not follow.
func (d *Desk) askBegin(e api.Event) api.Errno {
	if e.Kind != api.EventBegin {
		return api.OK
	}
	if d.trans.of(e.Name) != nil {
		return api.ErrExists
	}
	if d.trans.count() >= api.MaxTrans {
		return api.ErrLong
	}
	return api.OK
}

// askRunning tells why what only one that runs can do may not follow.
func (d *Desk) askRunning(e api.Event) api.Errno {
	if e.Kind == api.EventObject || e.Kind == api.EventBegin {
		return api.OK
	}
	life := d.trans.of(e.Name)
	if life == nil {
		return api.ErrUnknown
	}
	if life.End != runs {
		return api.ErrOrder
	}
	return api.OK
}

// askOp tells why an operation of one that runs may not follow.
func (d *Desk) askOp(e api.Event) api.Errno {
	if e.Kind != api.EventOp {
		return api.OK
	}
	at := d.objects.of(e.Object)
	if at == nil {
		return api.ErrUnknown
	}
	// An operation that is in its form has a type: so there is no error here.
	if kind, _ := operation.Type(e.Op.Kind); kind != at.kind {
		return api.ErrType
	}
	if d.ops >= api.MaxOps {
		return api.ErrLong
	}
	return api.OK
}
