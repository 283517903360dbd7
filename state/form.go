package state

import "armistice/api"

// form is a state whose type is known, and which is asked about the rest.
type form api.State

// asked tells what each type asks of a state, by the types' numbers. N and L that a type does not use are asked to be empty, too: else one text would be that of many states.
func asked() [api.Escrow + 1]func(form) bool {
	return [...]func(form) bool{
		api.Counter: form.isCounter,
		api.Set:     form.isSet,
		api.Map:     form.isMap,
		api.Queue:   form.isQueue,
		api.Escrow:  form.isAccount,
	}
}

func (f form) isCounter() bool { return len(f.L) == 0 }
func (f form) isSet() bool     { return f.N == 0 && rises(f.L, 1) }
func (f form) isMap() bool     { return f.N == 0 && len(f.L)%2 == 0 && rises(f.L, 2) }
func (f form) isQueue() bool   { return f.N == 0 }
func (f form) isAccount() bool { return len(f.L) == 0 && 0 <= f.N && f.N <= api.Cap }

// rises tells whether the first number of each step is greater than that of the step ahead.
func rises(l []int, step int) bool {
	for i := step; i < len(l); i += step {
		if l[i] <= l[i-step] {
			return false
		}
	}
	return true
}
