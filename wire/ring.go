package wire

// ring is a row of elements in a fixed number of places.
type ring[T any] struct {
	places []T
	start  int // the place of the first element
	taken  int
}

func ringOf[T any](places int) *ring[T] { return &ring[T]{places: make([]T, places)} }

func (r *ring[T]) free() int { return len(r.places) - r.taken }

// put puts an element behind the others of a ring with a free place.
func (r *ring[T]) put(x T) {
	r.places[(r.start+r.taken)%len(r.places)] = x
	r.taken++
}

// first returns the first element of a ring that is not empty.
func (r *ring[T]) first() T { return r.places[r.start] }

// drop removes the first element of a ring that is not empty.
func (r *ring[T]) drop() {
	r.start = (r.start + 1) % len(r.places)
	r.taken--
}
