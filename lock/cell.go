package lock

import "gleaner/sched"

// Cell holds one value.
type Cell[T comparable] struct {
	made  bool // no: NewCell did not make it, and it is as a nil one
	value T
	acts  int
}

// NewCell makes one with a value.
func NewCell[T comparable](v T) *Cell[T] { return &Cell[T]{made: true, value: v} }

func (c *Cell[T]) none() bool { return c == nil || !c.made }

// begin makes the step of a call and counts it, behind the step: a call that never comes back from there has done nothing.
func (c *Cell[T]) begin(b *sched.Baton) {
	b.Step()
	c.acts++
}

// Load tells the value (P9.5).
func (c *Cell[T]) Load(b *sched.Baton) T {
	if c.none() {
		var zero T
		return zero
	}
	c.begin(b)
	return c.value
}

// Store puts a value in (P9.5).
func (c *Cell[T]) Store(b *sched.Baton, v T) { c.Swap(b, v) }

// Swap puts a value in, and tells the one that was (P9.5).
func (c *Cell[T]) Swap(b *sched.Baton, v T) T {
	if c.none() {
		var zero T
		return zero
	}
	c.begin(b)
	was := c.value
	c.value = v
	return was
}

// Cas puts a value in, if the one that is there is equal to another (P9.5).
func (c *Cell[T]) Cas(b *sched.Baton, old, v T) bool {
	if c.none() {
		return false
	}
	c.begin(b)
	if !equal(c.value, old) {
		return false
	}
	c.value = v
	return true
}

// equal is ==. A T with an interface in it may hold what cannot be compared, at which == panics: nothing is equal to that.
func equal[T comparable](x, y T) (same bool) {
	defer func() { recover() }()
	return x == y
}

// Acts tells how many calls of these four it has had (P9.5).
func (c *Cell[T]) Acts() int {
	if c.none() {
		return 0
	}
	return c.acts
}
