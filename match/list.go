package match

import "slices"

// list is a row of elements, of which new ones come to the end.
type list[T any] []T

func (l *list[T]) add(x T) { *l = append(*l, x) }

// take removes the first element that is wanted, and returns it.
func (l *list[T]) take(wanted func(T) bool) (T, bool) {
	i := slices.IndexFunc(*l, wanted)
	if i < 0 {
		var none T
		return none, false
	}
	x := (*l)[i]
	*l = slices.Delete(*l, i, i+1)
	return x, true
}

// first removes the first element, and returns it.
func (l *list[T]) first() (T, bool) { return l.take(func(T) bool { return true }) }
