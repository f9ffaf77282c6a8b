package lock

import (
	"gleaner/api"
	"gleaner/sched"
)

// RW is a lock for many readers, or one writer. Its owner is the writer.
type RW struct {
	owner
	readers int
	waiting int // writers that wait for it
}

// NewRW makes one that nobody has.
func NewRW() *RW { return &RW{owner: newOwner()} }

func (m *RW) none() bool { return m == nil || !m.made }

// RLock waits till no writer has it or waits for it, and takes it as a reader (P9.3).
func (m *RW) RLock(b *sched.Baton) api.Errno {
	if m.none() {
		return api.ErrNil
	}
	if !await(b, func() bool { return m.free() && m.waiting == 0 }) {
		return api.ErrAlone
	}
	m.readers++
	return api.OK
}

// RUnlock lets it go as a reader (P9.3).
func (m *RW) RUnlock(b *sched.Baton) api.Errno {
	if m.none() {
		return api.ErrNil
	}
	b.Step()
	if m.readers == 0 {
		return api.ErrOwner
	}
	m.readers--
	return api.OK
}

// Lock waits till nobody has it, keeping further readers out meanwhile, and takes it as a writer (P9.3).
func (m *RW) Lock(b *sched.Baton) api.Errno {
	if m.none() {
		return api.ErrNil
	}
	b.Step()
	m.waiting++
	mine := await(b, func() bool { return m.free() && m.readers == 0 })
	m.waiting--
	if !mine {
		return api.ErrAlone
	}
	m.take(b)
	return api.OK
}

// Unlock lets it go as a writer (P9.3).
func (m *RW) Unlock(b *sched.Baton) api.Errno {
	if m.none() {
		return api.ErrNil
	}
	return m.giveBack(b)
}

// Readers tells how many readers have it (P9.3).
func (m *RW) Readers() int {
	if m.none() {
		return 0
	}
	return m.readers
}

// Writer tells whether a writer has it (P9.3).
func (m *RW) Writer() bool { return !m.none() && !m.free() }
