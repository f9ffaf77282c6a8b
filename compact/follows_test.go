package compact_test

import (
	"bytes"
	"slices"
	"strconv"
	"testing"

	"gleaner/api"
	"gleaner/frame"
	"gleaner/key"
)

// game is a store that many use: who gets holds a segment meanwhile, who puts has room pending meanwhile.
type game struct {
	*store
	t      *testing.T
	label  string
	some   dice
	bodies map[api.Key][]byte // of all that was put
	gets   []api.Keyed
	puts   []putting
	most   int // bytes of a body
	used   map[int]bool
}

// putting is a put under way.
type putting struct {
	at   api.Place
	body []byte
	laid int // bytes of the record
}

func newGame(t *testing.T, n int) *game {
	some := dice(1800 + n)
	c := api.Config{Segs: 3 + some.throw(10), Size: 64 + some.throw(600)}
	if n%5 == 0 {
		c = api.Config{Segs: 4 + some.throw(20), Size: 2000}
	}
	g := &game{store: made(t, c), t: t, some: some, bodies: map[api.Key][]byte{}}
	g.most = 2 + some.throw(c.Size-api.Head-1)
	if n%3 == 0 {
		g.most = 2 + c.Size/8
	}
	g.label = "game " + strconv.Itoa(n)
	return g
}

// draw is a body that was drawn before, or a new one.
func (g *game) draw() []byte {
	b := make([]byte, g.some.throw(g.most+1))
	if len(b) > 8 && g.some.throw(2) == 0 {
		b = b[:8]
	}
	for i := range b {
		b[i] = byte(g.some.throw(40))
	}
	return b
}

// put is a whole one; false: there is no room.
func (g *game) put() bool {
	if !g.startPut() {
		return false
	}
	for n := len(g.puts); len(g.puts) == n; {
		g.goOnPut(n - 1)
	}
	return true
}

func (g *game) startPut() bool {
	b := g.draw()
	at, no := g.Reserve(api.Head + len(b))
	if no != api.OK {
		return false
	}
	g.puts = append(g.puts, putting{at: at, body: b})
	return true
}

// goOnPut writes some bytes of a record, or, behind the last, settles it and lays its entry.
func (g *game) goOnPut(i int) {
	p := &g.puts[i]
	r := packed(p.body)
	if p.laid < len(r) {
		n := min(len(r), p.laid+1+g.some.throw(200))
		g.Write(api.Place{Seg: p.at.Seg, Off: p.at.Off + p.laid}, r[p.laid:n])
		p.laid = n
		return
	}
	k := key.Of(p.body)
	live := g.Put(k, api.Entry{Place: p.at, Size: len(r), Mark: uint32(g.some.throw(3))})
	is(g.t, g.label+": settled", g.Settle(p.at, len(r), live), api.OK)
	if live {
		g.bodies[k] = p.body
	}
	g.puts = slices.Delete(g.puts, i, i+1)
}

// any is one of the entries.
func (g *game) any() (api.Keyed, bool) {
	list := g.entries()
	if len(list) == 0 {
		return api.Keyed{}, false
	}
	return list[g.some.throw(len(list))], true
}

// beside is something that others do between two acts of the mover.
func (g *game) beside() {
	at, ok := g.any()
	switch n := g.some.throw(20); {
	case n < 2 && ok:
		is(g.t, g.label+": held", g.Hold(at.Entry.Place.Seg), api.OK)
		g.gets = append(g.gets, at)
	case n < 6 && len(g.gets) > 0:
		g.endGet(g.some.throw(len(g.gets)))
	case n < 8 && len(g.puts) < 2:
		g.startPut()
	case n < 14 && len(g.puts) > 0:
		g.goOnPut(g.some.throw(len(g.puts)))
	case n < 15 && ok:
		g.Mark(at.Key, uint32(g.some.throw(3)))
	}
}

// endGet reads by the place of before.
func (g *game) endGet(i int) {
	at := g.gets[i]
	b, no := g.Read(at.Entry.Place, at.Entry.Size)
	if no != api.OK || !bytes.Equal(b, packed(g.bodies[at.Key])) {
		g.t.Errorf("P18.5: %s: what a get reads is not what it was, %d", g.label, no)
	}
	is(g.t, g.label+": let", g.Let(at.Entry.Place.Seg), api.OK)
	g.gets = slices.Delete(g.gets, i, i+1)
}

// sweep takes some out that nobody is getting.
func (g *game) sweep(share int) {
	for _, at := range g.entries() {
		if g.some.throw(10) >= share || slices.ContainsFunc(g.gets, func(o api.Keyed) bool { return o.Key == at.Key }) {
			continue
		}
		g.Del(at.Key)
		is(g.t, g.label+": dead", g.Dead(at.Entry.Place, at.Entry.Size), api.OK)
	}
}

// whole holds the record at each entry's place against what it was at first.
func (g *game) whole(what string) {
	g.t.Helper()
	var rooms []api.Room
	for _, at := range g.entries() {
		b, no := g.Read(at.Entry.Place, at.Entry.Size)
		if no != api.OK || !bytes.Equal(b, packed(g.bodies[at.Key])) {
			g.t.Errorf("P18.5: %s: %s: the record of %s is not what it was", g.label, what, key.Hex(at.Key)[:8])
		}
		rooms = append(rooms, api.Room{Place: at.Entry.Place, Size: at.Entry.Size})
	}
	slices.SortFunc(rooms, func(a, b api.Room) int {
		return (a.Place.Seg-b.Place.Seg)<<20 + a.Place.Off - b.Place.Off
	})
	is(g.t, "P18.5: "+g.label+": "+what+": the live rooms", roomed(g.Live()), roomed(rooms))
	is(g.t, "P18.5: "+g.label+": "+what+": Left", g.Left(), 0)
}

// count is how many segments are in a state.
func (g *game) count(state api.SegState) int {
	n := 0
	for _, s := range g.Segments() {
		if s.State == state {
			n++
		}
	}
	return n
}

// bound is how many acts P18.7 grants: the records of the segments in the row, those that live counted twice, the segments, and one more.
func (g *game) bound() int {
	n := len(g.Todo()) + 1
	for _, seg := range g.Todo() {
		for range frame.All(g.Bytes(seg)) {
			n++
		}
		for _, r := range g.Live() {
			if r.Place.Seg == seg {
				n++
			}
		}
	}
	return n
}

// compact does all acts of a mover, with others beside it, if busy; the answer is how many segments the mover has filled.
func (g *game) compact(busy bool) int {
	is(g.t, g.label+": a spare", g.count(api.SegSpare), 1)
	g.begin()
	row, bound, acts := g.Todo(), g.bound(), 0
	live := len(g.rowed(row))
	var filled []int
	for done := false; !done; {
		if busy {
			for range g.some.throw(4) {
				g.beside()
			}
		}
		if !g.Ready() {
			is(g.t, "P18.3: "+g.label+": a wait", len(g.gets) > 0, true)
			is(g.t, "P18.3: "+g.label+": Act", g.Act(), false)
			g.endGet(g.some.throw(len(g.gets)))
			continue
		}
		if acts++; acts > bound {
			g.t.Fatalf("P18.7: %s: more than %d acts", g.label, bound)
		}
		done = g.Act()
		g.whole("behind act " + strconv.Itoa(acts))
		for i, s := range g.Segments() {
			if s.State == api.SegDest && (len(filled) == 0 || filled[len(filled)-1] != i) {
				filled = append(filled, i)
			}
		}
		if g.t.Failed() {
			g.t.FailNow()
		}
	}
	is(g.t, "P18.2: "+g.label+": acts", acts, bound)
	is(g.t, "P18.4: "+g.label+": Moved", g.Moved(), live)
	is(g.t, "P18.4: "+g.label+": Freed", g.Freed(), len(row))
	g.behind(row, filled, busy)
	return len(filled)
}

// rowed are the live rooms in some segments.
func (g *game) rowed(row []int) []api.Room {
	return slices.DeleteFunc(g.Live(), func(r api.Room) bool { return !slices.Contains(row, r.Place.Seg) })
}

// behind is P18.6.
func (g *game) behind(row, filled []int, busy bool) {
	segs := g.Segments()
	for _, seg := range row {
		anew := slices.Contains(filled, seg) || busy && segs[seg].Used > 0
		is(g.t, "P18.6: "+g.label+": free or used anew", segs[seg].State <= api.SegSpare || anew, true)
	}
	for i, seg := range filled {
		more := 2*segs[seg].Live > g.Config().Size
		is(g.t, "P18.6: "+g.label+": more than half", more || i == len(filled)-1, true)
	}
	is(g.t, "P18.6: "+g.label+": the mover's", g.count(api.SegDest), 0)
	is(g.t, "P18.6: "+g.label+": a spare", g.count(api.SegSpare), 1)
}

// P18.5 to P18.7: drawn arenas, some that are full, in rounds of puts, a sweep and a mover; by turns alone and beside others that get, put and mark.
func TestFollows(t *testing.T) {
	moved, most, waits := 0, 0, 0
	for n := range 120 {
		g := newGame(t, n)
		busy := n%2 == 1
		for range 5 {
			for puts := g.some.throw(60); puts > 0 && g.put(); puts-- {
				if busy {
					g.beside()
				}
			}
			g.sweep(2 + g.some.throw(8))
			most = max(most, g.compact(busy))
			moved += g.Moved()
			waits += len(g.gets)
		}
	}
	if moved < 1000 || most < 4 || waits < 20 {
		t.Errorf("drawn: %d were moved, %d segments filled at most, %d gets were under way at an end", moved, most, waits)
	}
}

// P18.5 to P18.7: with all gone, with nothing gone, and with all segments half gone.
func TestFollowsEnds(t *testing.T) {
	for _, kind := range []string{"nothing", "all", "half"} {
		g := newGame(t, 25)
		g.label = kind
		for g.put() {
		}
		for i, at := range g.entries() {
			if kind == "all" || kind == "half" && i%2 == 0 {
				g.Del(at.Key)
				g.Dead(at.Entry.Place, at.Entry.Size)
			}
		}
		segs := len(g.Segments())
		filled := g.compact(false)
		free := g.count(api.SegFree)
		if kind == "nothing" && free > 0 || kind == "all" && (free != segs-1 || filled > 0) || kind == "half" && (filled < 2 || free < 2) {
			t.Errorf("P18.6: %s: %d of %d free, %d filled", kind, free, segs, filled)
		}
	}
}

// P18.5, P18.7: as many records as may lie in the greatest segments.
func TestFollowsGreat(t *testing.T) {
	g := &game{store: made(t, api.Config{Segs: 3, Size: api.MaxSeg}), t: t, label: "great", bodies: map[api.Key][]byte{}}
	for n := range 20000 {
		b := []byte{byte(n), byte(n >> 8)}
		r := packed(b)
		at, no := g.Reserve(len(r))
		if no != api.OK {
			break
		}
		g.Write(at, r)
		g.Settle(at, len(r), n%3 == 0)
		if n%3 == 0 {
			g.bodies[key.Of(b)] = b
			g.Put(key.Of(b), api.Entry{Place: at, Size: len(r)})
		}
	}
	g.begin()
	bound, acts := g.bound(), 1
	for ; !g.Act(); acts++ {
		if acts > bound {
			t.Fatal("P18.7: it does not end")
		}
	}
	is(t, "P18.7: acts", acts, bound)
	is(t, "P18.7: many", acts, 2*5461+3641+2+1)
	g.whole("at the end")
	is(t, "P18.6: the segments", booked(g.Segments()), "f s o43692/43692")
}
