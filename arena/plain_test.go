package arena_test

import (
	"bytes"
	"slices"

	"gleaner/api"
)

// What a room of the plain arena is.
const (
	pending = 'p'
	live    = 'l'
	dead    = 'd'
)

type plainRoom struct {
	seg, off, size int
	what           rune
}

func (r plainRoom) told() api.Room {
	return api.Room{Place: api.Place{Seg: r.seg, Off: r.off}, Size: r.size}
}

type plainSegment struct {
	state  api.SegState
	used   int
	held   int
	memory []byte // all of it
}

// plain is the chapter's words without any means: every room of every segment is kept until the segment is freed, dead ones too, and everything is reckoned anew whenever it is asked.
type plain struct {
	c     api.Config
	segs  []plainSegment
	rooms []plainRoom // in the order in which they came
}

func newPlain(c api.Config) *plain {
	p := &plain{c: c}
	for i := range c.Segs {
		s := plainSegment{memory: make([]byte, c.Size)}
		if i == c.Segs-1 {
			s.state = api.SegSpare
		}
		p.segs = append(p.segs, s)
	}
	return p
}

// in are the numbers of all segments in a state.
func (p *plain) in(state api.SegState) []int {
	var out []int
	for i, s := range p.segs {
		if s.state == state {
			out = append(out, i)
		}
	}
	return out
}

func (p *plain) all(what rune) []plainRoom {
	var out []plainRoom
	for _, r := range p.rooms {
		if r.what == what {
			out = append(out, r)
		}
	}
	return out
}

func (p *plain) pendingIn(seg int) int {
	n := 0
	for _, r := range p.all(pending) {
		if r.seg == seg {
			n++
		}
	}
	return n
}

func (p *plain) liveIn(seg int) int {
	n := 0
	for _, r := range p.all(live) {
		if r.seg == seg {
			n += r.size
		}
	}
	return n
}

func (p *plain) there(seg int) bool { return 0 <= seg && seg < p.c.Segs }

func (p *plain) append(seg, size int) (api.Place, api.Errno) {
	at := api.Place{Seg: seg, Off: p.segs[seg].used}
	p.segs[seg].used += size
	p.rooms = append(p.rooms, plainRoom{seg, at.Off, size, pending})
	return at, api.OK
}

// make reserves at one end; followers are the segments that may follow, the first one ahead.
func (p *plain) make(end api.SegState, size int, followers []int) (api.Place, api.Errno) {
	if size < 1 || size > p.c.Size {
		return api.Place{}, api.ErrArg
	}
	at := p.in(end)
	for _, seg := range at {
		if p.segs[seg].used+size <= p.c.Size {
			return p.append(seg, size)
		}
	}
	if len(followers) == 0 {
		return api.Place{}, api.ErrFull
	}
	for _, seg := range at {
		p.segs[seg].state = api.SegSealed
	}
	p.segs[followers[0]].state = end
	return p.append(followers[0], size)
}

func (p *plain) Reserve(size int) (api.Place, api.Errno) {
	return p.make(api.SegOpen, size, p.in(api.SegFree))
}

func (p *plain) ReserveDest(size int) (api.Place, api.Errno) {
	return p.make(api.SegDest, size, append(p.in(api.SegSpare), p.in(api.SegFree)...))
}

func (p *plain) Write(at api.Place, data []byte) api.Errno {
	for _, r := range p.all(pending) {
		if r.seg == at.Seg && r.off <= at.Off && at.Off <= r.off+r.size && at.Off+len(data) <= r.off+r.size {
			copy(p.segs[at.Seg].memory[at.Off:], data)
			return api.OK
		}
	}
	return api.ErrRoom
}

// turn makes a room of just this place and size something else.
func (p *plain) turn(at api.Place, size int, was, is rune) api.Errno {
	for i, r := range p.rooms {
		if r == (plainRoom{at.Seg, at.Off, size, was}) {
			p.rooms[i].what = is
			return api.OK
		}
	}
	return api.ErrRoom
}

func (p *plain) Settle(at api.Place, size int, lives bool) api.Errno {
	if lives {
		return p.turn(at, size, pending, live)
	}
	return p.turn(at, size, pending, dead)
}

func (p *plain) Dead(at api.Place, size int) api.Errno { return p.turn(at, size, live, dead) }

func (p *plain) Hold(seg int) api.Errno {
	if !p.there(seg) || p.segs[seg].state == api.SegFree || p.segs[seg].state == api.SegSpare {
		return api.ErrSeg
	}
	p.segs[seg].held++
	return api.OK
}

func (p *plain) Let(seg int) api.Errno {
	if !p.there(seg) || p.segs[seg].held == 0 {
		return api.ErrSeg
	}
	p.segs[seg].held--
	return api.OK
}

func (p *plain) Read(at api.Place, n int) ([]byte, api.Errno) {
	if n < 0 || !p.there(at.Seg) || at.Off < 0 || at.Off > p.segs[at.Seg].used || p.segs[at.Seg].used-at.Off < n {
		return nil, api.ErrRoom
	}
	return bytes.Clone(p.segs[at.Seg].memory[at.Off : at.Off+n]), api.OK
}

func (p *plain) Seal() {
	for _, seg := range p.in(api.SegOpen) {
		p.segs[seg].state = api.SegSealed
	}
}

func (p *plain) Victims() []int {
	var out []int
	// Live bytes from none to half a segment: by these, then by number.
	for n := range p.c.Size/2 + 1 {
		for _, seg := range p.in(api.SegSealed) {
			if p.liveIn(seg) == n && p.pendingIn(seg) == 0 {
				out = append(out, seg)
			}
		}
	}
	return out
}

func (p *plain) Free(seg int) api.Errno {
	switch {
	case !p.there(seg) || p.segs[seg].state != api.SegSealed:
		return api.ErrSeg
	case p.segs[seg].held != 0 || p.pendingIn(seg) != 0:
		return api.ErrHeld
	case p.liveIn(seg) != 0:
		return api.ErrLive
	}
	state := api.SegFree
	if len(p.in(api.SegSpare)) == 0 {
		state = api.SegSpare
	}
	p.segs[seg] = plainSegment{state: state, memory: make([]byte, p.c.Size)}
	p.rooms = slices.DeleteFunc(p.rooms, func(r plainRoom) bool { return r.seg == seg })
	return api.OK
}

func (p *plain) Finish() {
	for _, seg := range p.in(api.SegDest) {
		if len(p.in(api.SegOpen)) == 0 {
			p.segs[seg].state = api.SegOpen
		} else {
			p.segs[seg].state = api.SegSealed
		}
	}
	if free := p.in(api.SegFree); len(p.in(api.SegSpare)) == 0 && len(free) > 0 {
		p.segs[free[0]].state = api.SegSpare
	}
}

func (p *plain) Config() api.Config { return p.c }

func (p *plain) Segments() []api.Segment {
	var out []api.Segment
	for i, s := range p.segs {
		out = append(out, api.Segment{State: s.state, Used: s.used, Live: p.liveIn(i), Pending: p.pendingIn(i), Held: s.held})
	}
	return out
}

func (p *plain) Bytes(seg int) []byte {
	if !p.there(seg) {
		return nil
	}
	return bytes.Clone(p.segs[seg].memory[:p.segs[seg].used])
}

// told are rooms by segment, then by offset: those of one segment came in that order.
func (p *plain) told(what rune) []api.Room {
	var out []api.Room
	for seg := range p.segs {
		for _, r := range p.all(what) {
			if r.seg == seg {
				out = append(out, r.told())
			}
		}
	}
	return out
}

func (p *plain) Live() []api.Room { return p.told(live) }

func (p *plain) Pending() []api.Room { return p.told(pending) }
