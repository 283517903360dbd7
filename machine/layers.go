package machine

import (
	"iter"

	"armistice/api"
	"armistice/counter"
	"armistice/escrow"
	"armistice/fifo"
	"armistice/mapping"
	"armistice/set"
)

// types are the types whose kinds the operations are, by the kinds' numbers. There is no kind 0.
var types = [...]int{
	api.Add: api.Counter, api.Read: api.Counter,
	api.Insert: api.Set, api.Remove: api.Set, api.Has: api.Set, api.Size: api.Set,
	api.Put: api.Map, api.Get: api.Map, api.Del: api.Map,
	api.Enq: api.Queue, api.Deq: api.Queue, api.Len: api.Queue,
	api.Deposit: api.Escrow, api.Withdraw: api.Escrow, api.Balance: api.Escrow,
}

// layers tells what each type does, by the types' numbers. There is no type 0.
func layers() [api.Escrow + 1]func(s api.State, kind, a, b int) (api.State, api.Ret, api.Errno) {
	return [...]func(api.State, int, int, int) (api.State, api.Ret, api.Errno){
		api.Counter: counter.Apply,
		api.Set:     set.Apply,
		api.Map:     mapping.Apply,
		api.Queue:   fifo.Apply,
		api.Escrow:  escrow.Apply,
	}
}

// came is what an operation came to: what it returned, or why it can't be applied.
type came struct {
	ret api.Ret
	err api.Errno
}

// states tells the state behind each operation, and what that one came to. Behind one that can't be applied there is none, so that whoever asks leaves there.
func states(s api.State, l []api.Op) iter.Seq2[api.State, came] {
	return func(yield func(api.State, came) bool) {
		stands := s
		for _, op := range l {
			then, ret, e := Apply(stands, op.Kind, op.A, op.B)
			if !yield(then, came{ret, e}) {
				return
			}
			stands = then
		}
	}
}
