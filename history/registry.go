package history

import "iter"

// registry is things by their names, each of which is there once, and in the order in which they came.
type registry[T any] struct {
	found map[string]*T
	order []*T
}

// open makes a registry without things.
func open[T any]() registry[T] { return registry[T]{found: map[string]*T{}} }

// add puts a thing behind all, by a name that is not there yet.
func (r *registry[T]) add(name string, thing T) {
	r.found[name] = &thing
	r.order = append(r.order, &thing)
}

// of tells the thing of a name, the one that is kept; nil, if there is none.
func (r *registry[T]) of(name string) *T { return r.found[name] }

func (r *registry[T]) count() int { return len(r.order) }

// all tells the things, in the order in which they came.
func (r *registry[T]) all() iter.Seq[*T] {
	return func(yield func(*T) bool) {
		for _, thing := range r.order {
			if !yield(thing) {
				return
			}
		}
	}
}
