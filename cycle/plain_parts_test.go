package cycle_test

import (
	"bytes"
	"iter"
	"slices"
	"strings"

	"gleaner/api"
)

// What a room of the plain arena is.
const (
	pending = 'p'
	live    = 'l'
	dead    = 'd'
)

type plainRoom struct {
	api.Room
	what rune
}

type plainSegment struct {
	state api.SegState
	held  int
	bytes []byte // the used ones
}

// plainArena has its rooms in the order in which they came; everything is reckoned anew whenever it is asked.
type plainArena struct {
	size  int
	segs  []plainSegment
	rooms []plainRoom
}

func newPlainArena(c api.Config) *plainArena {
	p := &plainArena{size: c.Size, segs: make([]plainSegment, c.Segs)}
	p.segs[c.Segs-1].state = api.SegSpare
	return p
}

// all are the numbers of the segments in a state.
func (p *plainArena) all(state api.SegState) []int {
	var out []int
	for i, s := range p.segs {
		if s.state == state {
			out = append(out, i)
		}
	}
	return out
}

// of are the rooms of a kind in a segment.
func (p *plainArena) of(seg int, what rune) []api.Room {
	var out []api.Room
	for _, r := range p.rooms {
		if r.Place.Seg == seg && r.what == what {
			out = append(out, r.Room)
		}
	}
	return out
}

func (p *plainArena) liveIn(seg int) int {
	n := 0
	for _, r := range p.of(seg, live) {
		n += r.Size
	}
	return n
}

// reserve makes room at one end; followers are the segments that may follow.
func (p *plainArena) reserve(end api.SegState, size int, followers []int) (api.Place, api.Errno) {
	now := p.all(end)
	if len(now) == 0 || len(p.segs[now[0]].bytes)+size > p.size {
		if len(followers) == 0 {
			return api.Place{}, api.ErrFull
		}
		for _, seg := range now {
			p.segs[seg].state = api.SegSealed
		}
		now = followers
		p.segs[now[0]].state = end
	}
	s := &p.segs[now[0]]
	at := api.Place{Seg: now[0], Off: len(s.bytes)}
	s.bytes = append(s.bytes, make([]byte, size)...)
	p.rooms = append(p.rooms, plainRoom{api.Room{Place: at, Size: size}, pending})
	return at, api.OK
}

func (p *plainArena) Reserve(size int) (api.Place, api.Errno) {
	return p.reserve(api.SegOpen, size, p.all(api.SegFree))
}

func (p *plainArena) reserveDest(size int) (api.Place, api.Errno) {
	return p.reserve(api.SegDest, size, append(p.all(api.SegSpare), p.all(api.SegFree)...))
}

func (p *plainArena) Write(at api.Place, data []byte) api.Errno {
	for _, r := range p.rooms {
		if r.what == pending && r.Place.Seg == at.Seg && r.Place.Off <= at.Off && at.Off+len(data) <= r.Place.Off+r.Size {
			copy(p.segs[at.Seg].bytes[at.Off:], data)
			return api.OK
		}
	}
	return api.ErrRoom
}

// become makes a room of just this place and size something else.
func (p *plainArena) become(r api.Room, was, is rune) api.Errno {
	i := slices.Index(p.rooms, plainRoom{r, was})
	if i < 0 {
		return api.ErrRoom
	}
	p.rooms[i].what = is
	return api.OK
}

func (p *plainArena) Settle(at api.Place, size int, lives bool) api.Errno {
	if lives {
		return p.become(api.Room{Place: at, Size: size}, pending, live)
	}
	return p.become(api.Room{Place: at, Size: size}, pending, dead)
}

func (p *plainArena) Dead(at api.Place, size int) api.Errno {
	return p.become(api.Room{Place: at, Size: size}, live, dead)
}

func (p *plainArena) Hold(seg int) api.Errno {
	if seg < 0 || seg >= len(p.segs) || p.segs[seg].state == api.SegFree || p.segs[seg].state == api.SegSpare {
		return api.ErrSeg
	}
	p.segs[seg].held++
	return api.OK
}

func (p *plainArena) Let(seg int) api.Errno {
	if seg < 0 || seg >= len(p.segs) || p.segs[seg].held == 0 {
		return api.ErrSeg
	}
	p.segs[seg].held--
	return api.OK
}

func (p *plainArena) Read(at api.Place, n int) ([]byte, api.Errno) {
	if at.Seg < 0 || at.Seg >= len(p.segs) || at.Off < 0 || n < 0 || at.Off+n > len(p.segs[at.Seg].bytes) {
		return nil, api.ErrRoom
	}
	return bytes.Clone(p.segs[at.Seg].bytes[at.Off : at.Off+n]), api.OK
}

func (p *plainArena) Seal() {
	for _, seg := range p.all(api.SegOpen) {
		p.segs[seg].state = api.SegSealed
	}
}

// victims are found by live bytes from none to half a segment's.
func (p *plainArena) victims() []int {
	var out []int
	for n := range p.size/2 + 1 {
		for _, seg := range p.all(api.SegSealed) {
			if p.liveIn(seg) == n && len(p.of(seg, pending)) == 0 {
				out = append(out, seg)
			}
		}
	}
	return out
}

// free tells whether it did.
func (p *plainArena) free(seg int) bool {
	if p.segs[seg].state != api.SegSealed || len(p.of(seg, live)) > 0 || len(p.of(seg, pending)) > 0 {
		return false
	}
	p.segs[seg] = plainSegment{state: api.SegFree}
	if len(p.all(api.SegSpare)) == 0 {
		p.segs[seg].state = api.SegSpare
	}
	p.rooms = slices.DeleteFunc(p.rooms, func(r plainRoom) bool { return r.Place.Seg == seg })
	return true
}

func (p *plainArena) finish() {
	for _, seg := range p.all(api.SegDest) {
		p.segs[seg].state = api.SegSealed
		if len(p.all(api.SegOpen)) == 0 {
			p.segs[seg].state = api.SegOpen
		}
	}
	if free := p.all(api.SegFree); len(free) > 0 && len(p.all(api.SegSpare)) == 0 {
		p.segs[free[0]].state = api.SegSpare
	}
}

func (p *plainArena) Segments() []api.Segment {
	var out []api.Segment
	for i, s := range p.segs {
		out = append(out, api.Segment{State: s.state, Used: len(s.bytes), Live: p.liveIn(i), Pending: len(p.of(i, pending)), Held: s.held})
	}
	return out
}

func (p *plainArena) Bytes(seg int) []byte { return bytes.Clone(p.segs[seg].bytes) }

// told are rooms of a kind, by segment, then by offset: those of one segment came in that order.
func (p *plainArena) told(what rune) []api.Room {
	var out []api.Room
	for seg := range p.segs {
		out = append(out, p.of(seg, what)...)
	}
	return out
}

func (p *plainArena) Live() []api.Room    { return p.told(live) }
func (p *plainArena) Pending() []api.Room { return p.told(pending) }

// plainIndex has its entries in no order.
type plainIndex struct{ in []api.Keyed }

// under is where a key's entry is; below 0: there is none.
func (p *plainIndex) under(k api.Key) int {
	return slices.IndexFunc(p.in, func(at api.Keyed) bool { return at.Key == k })
}

func (p *plainIndex) Get(k api.Key) (api.Entry, bool) {
	if i := p.under(k); i >= 0 {
		return p.in[i].Entry, true
	}
	return api.Entry{}, false
}

func (p *plainIndex) Put(k api.Key, e api.Entry) bool {
	if p.under(k) >= 0 {
		return false
	}
	p.in = append(p.in, api.Keyed{Key: k, Entry: e})
	return true
}

func (p *plainIndex) Mark(k api.Key, epoch uint32) bool {
	i := p.under(k)
	if i < 0 || p.in[i].Entry.Mark == epoch {
		return false
	}
	p.in[i].Entry.Mark = epoch
	return true
}

func (p *plainIndex) Move(k api.Key, from, to api.Place) bool {
	i := p.under(k)
	if i < 0 || p.in[i].Entry.Place != from {
		return false
	}
	p.in[i].Entry.Place = to
	return true
}

func (p *plainIndex) Del(k api.Key) (api.Entry, bool) {
	i := p.under(k)
	if i < 0 {
		return api.Entry{}, false
	}
	e := p.in[i].Entry
	p.in = slices.Delete(p.in, i, i+1)
	return e, true
}

func order(a, b api.Key) int { return strings.Compare(string(a[:]), string(b[:])) }

func (p *plainIndex) All() iter.Seq2[api.Key, api.Entry] {
	list := slices.Clone(p.in)
	slices.SortFunc(list, func(a, b api.Keyed) int { return order(a.Key, b.Key) })
	return func(yield func(api.Key, api.Entry) bool) {
		for _, at := range list {
			if !yield(at.Key, at.Entry) {
				return
			}
		}
	}
}

// plainRoots has its roots in no order; the names of the scripts are all right ones.
type plainRoots struct{ list []api.Root }

func (p *plainRoots) Set(name string, k api.Key) api.Errno {
	p.Drop(name)
	p.list = append(p.list, api.Root{Name: name, Key: k})
	return api.OK
}

func (p *plainRoots) Drop(name string) api.Errno {
	left := slices.DeleteFunc(slices.Clone(p.list), func(r api.Root) bool { return r.Name == name })
	if len(left) == len(p.list) {
		return api.ErrRoot
	}
	p.list = left
	return api.OK
}

func (p *plainRoots) All() []api.Root {
	out := slices.Clone(p.list)
	slices.SortFunc(out, func(a, b api.Root) int { return strings.Compare(a.Name, b.Name) })
	return out
}

// plainPins has the open sessions in no order, and their pins likewise.
type plainPins struct{ list []api.Session }

// at is where a session stands; below 0: it is not open.
func (p *plainPins) at(s int) int {
	return slices.IndexFunc(p.list, func(x api.Session) bool { return x.Number == s })
}

func (p *plainPins) Open(s int) api.Errno {
	switch {
	case s < 0 || s > 15:
		return api.ErrSession
	case p.at(s) >= 0:
		return api.ErrOpen
	}
	p.list = append(p.list, api.Session{Number: s})
	return api.OK
}

func (p *plainPins) Close(s int) api.Errno {
	i := p.at(s)
	switch {
	case i < 0:
		return api.ErrSession
	case p.list[i].Busy > 0:
		return api.ErrBusy
	}
	p.list = slices.Delete(p.list, i, i+1)
	return api.OK
}

func (p *plainPins) Pin(s int, k api.Key) api.Errno {
	i := p.at(s)
	if i < 0 {
		return api.ErrSession
	}
	if !slices.Contains(p.list[i].Pins, k) {
		p.list[i].Pins = append(p.list[i].Pins, k)
	}
	return api.OK
}

// busier makes a session so many times busier.
func (p *plainPins) busier(s, n int) api.Errno {
	i := p.at(s)
	switch {
	case i < 0:
		return api.ErrSession
	case p.list[i].Busy+n < 0:
		return api.ErrState
	}
	p.list[i].Busy += n
	return api.OK
}

func (p *plainPins) Enter(s int) api.Errno { return p.busier(s, 1) }
func (p *plainPins) Leave(s int) api.Errno { return p.busier(s, -1) }

func (p *plainPins) Sessions() []api.Session {
	var out []api.Session
	for _, x := range p.list {
		x.Pins = slices.Clone(x.Pins)
		slices.SortFunc(x.Pins, order)
		out = append(out, x)
	}
	slices.SortFunc(out, func(a, b api.Session) int { return a.Number - b.Number })
	return out
}
