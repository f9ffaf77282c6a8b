package compact_test

import (
	"bytes"
	"slices"
	"strings"

	"gleaner/api"
	"gleaner/frame"
	"gleaner/key"
)

// What a room of the plain store is.
const (
	pending = 'p'
	live    = 'l'
	dead    = 'd'
)

type plainRoom struct {
	api.Room
	what rune
}

type plainSegment struct {
	state api.SegState
	held  int
	bytes []byte // the used ones
}

// plain is a mover by the chapter's words, over an arena and an index that are plain lists: rooms in the order in which they came, entries in none, and everything is reckoned anew whenever it is asked.
type plain struct {
	size  int
	segs  []plainSegment
	rooms []plainRoom
	in    []api.Keyed

	row                []int
	off                int
	written            []api.Room // one, if a record was written in the act before
	key                api.Key
	done               bool
	moved, freed, left int
	full               int // how often there was no room
}

func newPlain(c api.Config) *plain {
	p := &plain{size: c.Size, segs: make([]plainSegment, c.Segs)}
	p.segs[c.Segs-1].state = api.SegSpare
	return p
}

// all are the numbers of the segments in a state.
func (p *plain) all(state api.SegState) []int {
	var out []int
	for i, s := range p.segs {
		if s.state == state {
			out = append(out, i)
		}
	}
	return out
}

// of are the rooms of a kind in a segment.
func (p *plain) of(seg int, what rune) []api.Room {
	var out []api.Room
	for _, r := range p.rooms {
		if r.Place.Seg == seg && r.what == what {
			out = append(out, r.Room)
		}
	}
	return out
}

func (p *plain) liveIn(seg int) int {
	n := 0
	for _, r := range p.of(seg, live) {
		n += r.Size
	}
	return n
}

// reserve makes room at one end; followers are the segments that may follow.
func (p *plain) reserve(end api.SegState, size int, followers []int) (api.Place, api.Errno) {
	now := p.all(end)
	if len(now) == 0 || len(p.segs[now[0]].bytes)+size > p.size {
		if len(followers) == 0 {
			return api.Place{}, api.ErrFull
		}
		for _, seg := range now {
			p.segs[seg].state = api.SegSealed
		}
		now = followers
		p.segs[now[0]].state = end
	}
	s := &p.segs[now[0]]
	at := api.Place{Seg: now[0], Off: len(s.bytes)}
	s.bytes = append(s.bytes, make([]byte, size)...)
	p.rooms = append(p.rooms, plainRoom{api.Room{Place: at, Size: size}, pending})
	return at, api.OK
}

func (p *plain) Reserve(size int) (api.Place, api.Errno) {
	return p.reserve(api.SegOpen, size, p.all(api.SegFree))
}

func (p *plain) Write(at api.Place, data []byte) api.Errno {
	for _, r := range p.rooms {
		if r.what == pending && r.Place.Seg == at.Seg && r.Place.Off <= at.Off && at.Off+len(data) <= r.Place.Off+r.Size {
			copy(p.segs[at.Seg].bytes[at.Off:], data)
			return api.OK
		}
	}
	return api.ErrRoom
}

// become makes a room of just this place and size something else.
func (p *plain) become(r api.Room, was, is rune) api.Errno {
	i := slices.Index(p.rooms, plainRoom{r, was})
	if i < 0 {
		return api.ErrRoom
	}
	p.rooms[i].what = is
	return api.OK
}

func (p *plain) Settle(at api.Place, size int, lives bool) api.Errno {
	if lives {
		return p.become(api.Room{Place: at, Size: size}, pending, live)
	}
	return p.become(api.Room{Place: at, Size: size}, pending, dead)
}

func (p *plain) Dead(at api.Place, size int) api.Errno {
	return p.become(api.Room{Place: at, Size: size}, live, dead)
}

func (p *plain) Hold(seg int) api.Errno {
	if seg < 0 || seg >= len(p.segs) || p.segs[seg].state == api.SegFree || p.segs[seg].state == api.SegSpare {
		return api.ErrSeg
	}
	p.segs[seg].held++
	return api.OK
}

func (p *plain) Let(seg int) api.Errno {
	if seg < 0 || seg >= len(p.segs) || p.segs[seg].held == 0 {
		return api.ErrSeg
	}
	p.segs[seg].held--
	return api.OK
}

func (p *plain) Seal() {
	for _, seg := range p.all(api.SegOpen) {
		p.segs[seg].state = api.SegSealed
	}
}

func (p *plain) Segments() []api.Segment {
	var out []api.Segment
	for i, s := range p.segs {
		out = append(out, api.Segment{State: s.state, Used: len(s.bytes), Live: p.liveIn(i), Pending: len(p.of(i, pending)), Held: s.held})
	}
	return out
}

func (p *plain) Bytes(seg int) []byte { return bytes.Clone(p.segs[seg].bytes) }

// told are rooms of a kind, by segment, then by offset: those of one segment came in that order.
func (p *plain) told(what rune) []api.Room {
	var out []api.Room
	for seg := range p.segs {
		out = append(out, p.of(seg, what)...)
	}
	return out
}

func (p *plain) Live() []api.Room    { return p.told(live) }
func (p *plain) Pending() []api.Room { return p.told(pending) }

// under is where a key's entry is; below 0: there is none.
func (p *plain) under(k api.Key) int {
	return slices.IndexFunc(p.in, func(at api.Keyed) bool { return at.Key == k })
}

func (p *plain) Get(k api.Key) (api.Entry, bool) {
	if i := p.under(k); i >= 0 {
		return p.in[i].Entry, true
	}
	return api.Entry{}, false
}

func (p *plain) Put(k api.Key, e api.Entry) bool {
	if p.under(k) >= 0 {
		return false
	}
	p.in = append(p.in, api.Keyed{Key: k, Entry: e})
	return true
}

func (p *plain) Mark(k api.Key, epoch uint32) bool {
	i := p.under(k)
	if i < 0 || p.in[i].Entry.Mark == epoch {
		return false
	}
	p.in[i].Entry.Mark = epoch
	return true
}

func (p *plain) Move(k api.Key, from, to api.Place) bool {
	i := p.under(k)
	if i < 0 || p.in[i].Entry.Place != from {
		return false
	}
	p.in[i].Entry.Place = to
	return true
}

func (p *plain) Del(k api.Key) (api.Entry, bool) {
	i := p.under(k)
	if i < 0 {
		return api.Entry{}, false
	}
	e := p.in[i].Entry
	p.in = slices.Delete(p.in, i, i+1)
	return e, true
}

func (p *plain) entries() []api.Keyed {
	out := slices.Clone(p.in)
	slices.SortFunc(out, func(a, b api.Keyed) int { return strings.Compare(string(a.Key[:]), string(b.Key[:])) })
	return out
}

// begin is P18.1; the victims are found by live bytes from none to half a segment's.
func (p *plain) begin() {
	p.Seal()
	p.row, p.off, p.written, p.done = nil, 0, nil, false
	p.moved, p.freed, p.left = 0, 0, 0
	for n := range p.size/2 + 1 {
		for _, seg := range p.all(api.SegSealed) {
			if p.liveIn(seg) == n && len(p.of(seg, pending)) == 0 {
				p.row = append(p.row, seg)
			}
		}
	}
}

func (p *plain) Ready() bool {
	return len(p.written) > 0 || len(p.row) == 0 || p.off < len(p.segs[p.row[0]].bytes) || p.segs[p.row[0]].held == 0
}

// Act is P18.2, a case behind the other.
func (p *plain) Act() bool {
	if p.done {
		return true
	}
	if len(p.written) > 0 {
		p.turn(p.written[0])
		return false
	}
	if len(p.row) == 0 {
		p.finish()
		return true
	}
	s := p.segs[p.row[0]]
	if p.off == len(s.bytes) {
		if s.held == 0 {
			p.free()
		}
		return false
	}
	b, size, no := frame.Unpack(s.bytes, p.off)
	if no != api.OK {
		p.leave(&p.left)
		return false
	}
	p.key = key.Of(b)
	if i := p.under(p.key); i < 0 || p.in[i].Entry.Place != p.At() {
		p.off += size
		return false
	}
	to, no := p.reserve(api.SegDest, size, append(p.all(api.SegSpare), p.all(api.SegFree)...))
	if no != api.OK {
		p.full++
		p.leave(&p.left)
		return false
	}
	p.Write(to, s.bytes[p.off:p.off+size])
	p.written = []api.Room{{Place: to, Size: size}}
	return false
}

func (p *plain) turn(to api.Room) {
	old := api.Room{Place: p.At(), Size: to.Size}
	if p.Move(p.key, old.Place, to.Place) {
		p.become(to, pending, live)
		p.become(old, live, dead)
		p.moved++
	} else {
		p.become(to, pending, dead)
	}
	p.written = nil
	p.off += to.Size
}

func (p *plain) free() {
	seg := p.row[0]
	if p.segs[seg].state != api.SegSealed || len(p.of(seg, live)) > 0 || len(p.of(seg, pending)) > 0 {
		p.leave(&p.left)
		return
	}
	p.segs[seg] = plainSegment{state: api.SegFree}
	if len(p.all(api.SegSpare)) == 0 {
		p.segs[seg].state = api.SegSpare
	}
	p.rooms = slices.DeleteFunc(p.rooms, func(r plainRoom) bool { return r.Place.Seg == seg })
	p.leave(&p.freed)
}

func (p *plain) finish() {
	for _, seg := range p.all(api.SegDest) {
		p.segs[seg].state = api.SegSealed
		if len(p.all(api.SegOpen)) == 0 {
			p.segs[seg].state = api.SegOpen
		}
	}
	if free := p.all(api.SegFree); len(free) > 0 && len(p.all(api.SegSpare)) == 0 {
		p.segs[free[0]].state = api.SegSpare
	}
	p.done = true
}

func (p *plain) leave(count *int) {
	*count++
	p.row, p.off = p.row[1:], 0
}

func (p *plain) Todo() []int { return slices.Clone(p.row) }

func (p *plain) At() api.Place {
	if len(p.row) == 0 {
		return api.Place{Seg: -1, Off: -1}
	}
	return api.Place{Seg: p.row[0], Off: p.off}
}

func (p *plain) Moved() int { return p.moved }
func (p *plain) Freed() int { return p.freed }
func (p *plain) Left() int  { return p.left }
