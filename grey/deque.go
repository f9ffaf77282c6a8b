package grey

import (
	"iter"
	"slices"
)

// Deque is a row of values with two ends: the bottom, and the top.
type Deque[T any] struct{ row[T] }

// NewDeque makes one of some values, from the bottom on (P15.1).
func NewDeque[T any](values ...T) *Deque[T] { return &Deque[T]{newRow(values...)} }

func (d *Deque[T]) none() bool { return d == nil || d.slots == nil }

// PushTop puts a value on at the top (P15.1).
func (d *Deque[T]) PushTop(v T) {
	if !d.none() {
		d.push(atTop, v)
	}
}

// PushBottom puts a value on at the bottom (P15.1).
func (d *Deque[T]) PushBottom(v T) {
	if !d.none() {
		d.push(atBottom, v)
	}
}

// PopTop takes the value at the top off (P15.1).
func (d *Deque[T]) PopTop() (T, bool) { return d.take(atTop) }

// PopBottom takes the value at the bottom off (P15.1).
func (d *Deque[T]) PopBottom() (T, bool) { return d.take(atBottom) }

// take is pop of any Deque, a nil one too.
func (d *Deque[T]) take(bottom bool) (T, bool) {
	if d.none() {
		var zero T
		return zero, false
	}
	return d.pop(bottom)
}

// At tells the value at a place, from 0, the bottom, on (P15.2).
func (d *Deque[T]) At(i int) (T, bool) {
	if d.none() {
		var zero T
		return zero, false
	}
	return d.at(i)
}

// Set puts another value at a place (P15.2).
func (d *Deque[T]) Set(i int, v T) bool { return !d.none() && d.set(i, v) }

// Len tells how many values there are (P15.1).
func (d *Deque[T]) Len() int {
	if d.none() {
		return 0
	}
	return d.count
}

// Turn moves so many values from the bottom to the top, one behind the other (below 0: from the top to the bottom) (P15.3).
func (d *Deque[T]) Turn(n int) {
	if d.Len() == 0 {
		return
	}
	n %= d.count // a whole round changes nothing
	bottom := n > 0
	for range max(n, -n) {
		v, _ := d.pop(bottom)
		d.push(!bottom, v)
	}
}

// All tells the values that there are now, and their places, from the bottom on (P15.4).
func (d *Deque[T]) All() iter.Seq2[int, T] {
	if d.none() {
		return slices.All[[]T](nil)
	}
	return slices.All(d.values())
}
