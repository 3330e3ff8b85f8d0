package session

import (
	"iter"

	"tandem/api"
)

// ring is the newest of the items that were put in, api.MaxAgain at most.
type ring[T any] struct {
	items [api.MaxAgain]T
	first int // where the oldest one stands
	count int
}

// place tells where the item stands that is so many behind the oldest one.
func (r *ring[T]) place(behind int) int { return (r.first + behind) % len(r.items) }

// put makes an item the newest one; of a full ring the oldest one goes.
func (r *ring[T]) put(item T) {
	r.items[r.place(r.count)] = item
	if r.count < len(r.items) {
		r.count++
	} else {
		r.first = r.place(1)
	}
}

// all tells the items, the oldest first.
func (r *ring[T]) all() iter.Seq[T] {
	return func(yield func(T) bool) {
		for behind := range r.count {
			if !yield(r.items[r.place(behind)]) {
				return
			}
		}
	}
}

// keep lets those items stay that a function tells of, in their order. The ring is built anew, so that it holds nothing of the others.
func (r *ring[T]) keep(stays func(T) bool) {
	var kept ring[T]
	for item := range r.all() {
		if stays(item) {
			kept.put(item)
		}
	}
	*r = kept
}
