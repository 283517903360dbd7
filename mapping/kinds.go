package mapping

import (
	"slices"

	"armistice/api"
)

// kinds tells what each kind makes of a map's keys and values, by the kinds' numbers. Below Put none is a map's.
func kinds() [api.Del + 1]func(l []int, key, value int) []int {
	return [...]func([]int, int, int) []int{
		api.Put: Set,
		// What is got stays, but in memory of its own, so that what is done to an answer does not come back to who handed it in.
		api.Get: func(l []int, _, _ int) []int { return slices.Concat(l) },
		api.Del: func(l []int, key, _ int) []int { return Drop(l, key) },
	}
}

// on tells how operations are done on a state. Whatever a kind makes of it, what is returned is what the key had ahead of that.
func on(s api.State) func(kind, key, value int) (api.State, api.Ret) {
	return func(kind, key, value int) (api.State, api.Ret) {
		do := kinds()[kind]
		return api.State{Type: s.Type, L: do(s.L, key, value)}, had(s.L, key)
	}
}

func had(l []int, key int) api.Ret {
	if value, there := Find(l, key); there {
		return api.Ret{Kind: api.RetNumber, N: value}
	}
	return api.Ret{Kind: api.RetNone}
}
