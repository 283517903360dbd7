package project

import (
	"slices"

	"armistice/api"
	"armistice/names"
	"armistice/operation"
	"armistice/state"
)

// Check tells why a case may not be.
func Check(c api.Case) api.Errno {
	if tooLong(c) {
		return api.ErrLong
	}
	if len(c.First) != len(c.Names) {
		return api.ErrArg
	}
	if err := checkObjects(c); err != api.OK {
		return err
	}
	if err := checkTrans(c); err != api.OK {
		return err
	}
	if len(slices.Compact(places(c))) < spots(c) {
		return api.ErrOrder
	}
	return api.OK
}

// tooLong tells whether a case has more of something than it may have.
func tooLong(c api.Case) bool {
	trans, acts := Size(c)
	return len(c.Names) > api.MaxObjects || trans > api.MaxTrans || acts > api.MaxOps
}

// checkObjects tells why the objects may not be. There are as many states as names.
func checkObjects(c api.Case) api.Errno {
	known := names.New()
	for i, name := range c.Names {
		// A table takes more names than a case has objects, or transactions: so it refuses what is no name, or is there.
		if _, err := known.Add(name); err != api.OK {
			return err
		}
		if err := state.Check(c.First[i]); err != api.OK {
			return err
		}
		if len(c.First[i].L) > api.MaxStart {
			return api.ErrLong
		}
	}
	return api.OK
}

// checkTrans tells why the transactions, one by one, may not be.
func checkTrans(c api.Case) api.Errno {
	known := names.New()
	// A Begin is from 0 on, as if somebody ahead of all had begun at -1.
	ahead := -1
	for _, t := range c.Trans {
		if _, err := known.Add(t.Name); err != api.OK {
			return err
		}
		if len(t.At) != len(t.Acts) {
			return api.ErrArg
		}
		if t.Begin <= ahead || !rises(t) {
			return api.ErrOrder
		}
		ahead = t.Begin
		for _, a := range t.Acts {
			if err := checkAct(a, c.First); err != api.OK {
				return err
			}
		}
	}
	return api.OK
}

// rises tells whether each of a transaction's places is greater than the one ahead.
func rises(t api.Trans) bool {
	last := t.Begin
	for _, place := range t.At {
		if place <= last {
			return false
		}
		last = place
	}
	return t.Commit > last
}

// checkAct tells why an operation may not be done on one of these objects.
func checkAct(a api.Act, objects []api.State) api.Errno {
	if a.Object < 0 || a.Object >= len(objects) {
		return api.ErrRange
	}
	if err := operation.Check(a.Op); err != api.OK {
		return err
	}
	// An operation that is in its form has a type: so there is no error here.
	if kind, _ := operation.Type(a.Op.Kind); kind != objects[a.Object].Type {
		return api.ErrType
	}
	return api.OK
}
