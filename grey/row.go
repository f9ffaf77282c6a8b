package grey

// row is the values of a Deque or of a List, from the bottom on. They lie in a ring: behind its last slot comes its first one.
type row[T any] struct {
	slots  []T // nil: no call of the package made the row, and it is as a nil one
	bottom int // the slot of the bottom
	count  int
}

// The ends, where a call is told whether it is about the bottom.
const (
	atTop    = false
	atBottom = true
)

// newRow is a row of some values, the first at the bottom.
func newRow[T any](values ...T) row[T] {
	r := row[T]{slots: make([]T, len(values)), count: len(values)}
	copy(r.slots, values)
	return r
}

// slot is the one that lies so many behind the bottom's: fewer than there are slots.
func (r *row[T]) slot(behind int) int {
	if left := len(r.slots) - r.bottom; behind >= left {
		return behind - left
	}
	return r.bottom + behind
}

// end is the place at an end: none of the row's places, if there is no value.
func (r *row[T]) end(bottom bool) int {
	if bottom {
		return 0
	}
	return r.count - 1
}

func (r *row[T]) has(i int) bool { return 0 <= i && i < r.count }

func (r *row[T]) at(i int) (T, bool) {
	if !r.has(i) {
		var zero T
		return zero, false
	}
	return r.slots[r.slot(i)], true
}

func (r *row[T]) set(i int, v T) bool {
	if !r.has(i) {
		return false
	}
	r.slots[r.slot(i)] = v
	return true
}

// grow makes the ring anew, greater, with the bottom in its first slot.
func (r *row[T]) grow() {
	slots := make([]T, 2*len(r.slots)+1)
	r.lay(slots)
	r.slots, r.bottom = slots, 0
}

// push puts a value on at an end.
func (r *row[T]) push(bottom bool, v T) {
	if r.count == len(r.slots) {
		r.grow()
	}
	if bottom {
		r.bottom = r.slot(len(r.slots) - 1)
	}
	r.count++
	r.set(r.end(bottom), v)
}

// pop takes the value at an end off. Its slot is set to zero, so that the ring keeps nothing of it.
func (r *row[T]) pop(bottom bool) (T, bool) {
	v, ok := r.at(r.end(bottom))
	if !ok {
		return v, false
	}
	var zero T
	r.set(r.end(bottom), zero)
	if bottom {
		r.bottom = r.slot(1)
	}
	r.count--
	return v, true
}

// lay copies the values into a list that has room for them, from the bottom on.
func (r *row[T]) lay(list []T) {
	list = list[:r.count]
	n := copy(list, r.slots[r.bottom:])
	copy(list[n:], r.slots)
}

// values are all of them, in new memory.
func (r *row[T]) values() []T {
	list := make([]T, r.count)
	r.lay(list)
	return list
}
