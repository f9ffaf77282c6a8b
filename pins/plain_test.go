package pins_test

import (
	"slices"
	"strings"

	"gleaner/api"
)

// pinned is a session's number and a key that it pins.
type pinned struct {
	s int
	k api.Key
}

// plain is the chapter's words over lists in no order: the open ones' numbers, a number for each time that one is busy, and what is pinned.
type plain struct {
	opens []int
	busy  []int
	pairs []pinned
}

func ordered(a, b api.Key) int { return strings.Compare(string(a[:]), string(b[:])) }

func (p *plain) IsOpen(s int) bool { return slices.Contains(p.opens, s) }

func (p *plain) Open(s int) api.Errno {
	switch {
	case s < 0 || s > 15:
		return api.ErrSession
	case p.IsOpen(s):
		return api.ErrOpen
	}
	p.opens = append(p.opens, s)
	return api.OK
}

func (p *plain) Close(s int) api.Errno {
	switch {
	case !p.IsOpen(s):
		return api.ErrSession
	case slices.Contains(p.busy, s):
		return api.ErrBusy
	}
	p.opens = slices.DeleteFunc(p.opens, func(n int) bool { return n == s })
	p.pairs = slices.DeleteFunc(p.pairs, func(x pinned) bool { return x.s == s })
	return api.OK
}

func (p *plain) Has(s int, k api.Key) bool { return slices.Contains(p.pairs, pinned{s, k}) }

func (p *plain) Pin(s int, k api.Key) api.Errno {
	switch {
	case !p.IsOpen(s):
		return api.ErrSession
	case !p.Has(s, k):
		p.pairs = append(p.pairs, pinned{s, k})
	}
	return api.OK
}

func (p *plain) Enter(s int) api.Errno {
	if !p.IsOpen(s) {
		return api.ErrSession
	}
	p.busy = append(p.busy, s)
	return api.OK
}

func (p *plain) Leave(s int) api.Errno {
	if !p.IsOpen(s) {
		return api.ErrSession
	}
	i := slices.Index(p.busy, s)
	if i < 0 {
		return api.ErrState
	}
	p.busy = slices.Delete(p.busy, i, i+1)
	return api.OK
}

func (p *plain) Busy(s int) int {
	n := 0
	for _, x := range p.busy {
		if x == s {
			n++
		}
	}
	return n
}

// keys are what a session pins, rising.
func (p *plain) keys(s int) []api.Key {
	var out []api.Key
	for _, x := range p.pairs {
		if x.s == s {
			out = append(out, x.k)
		}
	}
	slices.SortFunc(out, ordered)
	return out
}

func (p *plain) Next(s int, after api.Key, all bool) (api.Key, bool) {
	for _, k := range p.keys(s) {
		if all || ordered(k, after) > 0 {
			return k, true
		}
	}
	return api.Key{}, false
}

func (p *plain) Count(k api.Key) int {
	n := 0
	for _, x := range p.pairs {
		if x.k == k {
			n++
		}
	}
	return n
}

func (p *plain) Sessions() []api.Session {
	var out []api.Session
	for _, s := range slices.Sorted(slices.Values(p.opens)) {
		out = append(out, api.Session{Number: s, Busy: p.Busy(s), Pins: p.keys(s)})
	}
	return out
}
