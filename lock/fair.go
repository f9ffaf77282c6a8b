package lock

import (
	"gleaner/api"
	"gleaner/sched"
)

// Fair is a lock that is taken in the order in which it was asked for.
type Fair struct {
	owner
	asked int // how many have asked so far
	had   int // how many of them have had it: they have it in their order, so that their places tell whose turn it is
}

// NewFair makes one that nobody has.
func NewFair() *Fair { return &Fair{owner: newOwner()} }

func (m *Fair) none() bool { return m == nil || !m.made }

// Lock asks for it, waits till those who asked earlier are through, and takes it (P9.2).
func (m *Fair) Lock(b *sched.Baton) api.Errno {
	if m.none() {
		return api.ErrNil
	}
	b.Step()
	place := m.asked
	m.asked++
	if !await(b, func() bool { return m.free() && m.had == place }) {
		m.asked--
		return api.ErrAlone
	}
	m.had++
	m.take(b)
	return api.OK
}

// Unlock lets it go (P9.2).
func (m *Fair) Unlock(b *sched.Baton) api.Errno {
	if m.none() {
		return api.ErrNil
	}
	return m.giveBack(b)
}

// Waiting tells how many have asked and have not had it yet (P9.2).
func (m *Fair) Waiting() int {
	if m.none() {
		return 0
	}
	return m.asked - m.had
}
