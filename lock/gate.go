package lock

import (
	"gleaner/api"
	"gleaner/sched"
)

// Gate counts who is within.
type Gate struct {
	made   bool // no: NewGate did not make it, and it is as a nil one
	within int
}

// NewGate makes one with nobody within.
func NewGate() *Gate { return &Gate{made: true} }

func (g *Gate) none() bool { return g == nil || !g.made }

// Enter goes in (P9.4).
func (g *Gate) Enter() api.Errno {
	if g.none() {
		return api.ErrNil
	}
	g.within++
	return api.OK
}

// Leave goes out (P9.4).
func (g *Gate) Leave() api.Errno {
	switch {
	case g.none():
		return api.ErrNil
	case g.within == 0:
		return api.ErrOwner
	}
	g.within--
	return api.OK
}

// Count tells how many are within (P9.4).
func (g *Gate) Count() int {
	if g.none() {
		return 0
	}
	return g.within
}

// Wait waits till nobody is within (P9.4).
func (g *Gate) Wait(b *sched.Baton) api.Errno {
	if g.none() {
		return api.ErrNil
	}
	if !await(b, func() bool { return g.within == 0 }) {
		return api.ErrAlone
	}
	return api.OK
}
