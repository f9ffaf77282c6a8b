package lock

import (
	"gleaner/api"
	"gleaner/sched"
)

// Mutex is a lock.
type Mutex struct{ owner }

// NewMutex makes one that nobody has.
func NewMutex() *Mutex { return &Mutex{newOwner()} }

func (m *Mutex) none() bool { return m == nil || !m.made }

// Lock waits till nobody has it, and takes it (P9.1).
func (m *Mutex) Lock(b *sched.Baton) api.Errno {
	if m.none() {
		return api.ErrNil
	}
	if !await(b, func() bool { return m.free() }) {
		return api.ErrAlone
	}
	m.take(b)
	return api.OK
}

// TryLock takes it, if nobody has it (P9.1).
func (m *Mutex) TryLock(b *sched.Baton) (bool, api.Errno) {
	if m.none() {
		return false, api.ErrNil
	}
	b.Step()
	if !m.free() {
		return false, api.OK
	}
	m.take(b)
	return true, api.OK
}

// Unlock lets it go (P9.1).
func (m *Mutex) Unlock(b *sched.Baton) api.Errno {
	if m.none() {
		return api.ErrNil
	}
	return m.giveBack(b)
}

// Holder tells who has it: a thread; -1: nobody; -2: who came without a baton (P9.1).
func (m *Mutex) Holder() int {
	if m.none() {
		return nobody
	}
	return m.who
}
