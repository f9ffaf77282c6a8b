package cycle_test

import (
	"bytes"
	"slices"
	"strconv"
	"testing"

	"gleaner/api"
	"gleaner/frame"
	"gleaner/object"
)

// estate is a world at rest whose objects are known, each by its key.
type estate struct {
	*world
	t      *testing.T
	label  string
	some   dice
	size   int
	things map[api.Key]api.Object // all that was ever drawn
	keys   []api.Key              // theirs
}

// draw is a new object, whose kids are among those that were drawn before.
func (e *estate) draw() api.Object {
	o := api.Object{Kind: api.Kind(1 + e.some.throw(4))}
	most := min(9, (e.size-60)/50)
	if len(e.keys) == 0 || most < 1 {
		o.Kind = api.Blob
	}
	kid := func() api.Key {
		near := min(len(e.keys), 1+e.some.throw(len(e.keys)))
		return e.keys[len(e.keys)-1-e.some.throw(near)]
	}
	switch n := 1 + e.some.throw(max(most, 1)); o.Kind {
	case api.Blob:
		o.Data = make([]byte, 4+e.some.throw(e.size/3-api.Head-5))
		for i := range min(4, len(o.Data)) {
			o.Data[i] = byte(e.some.throw(256))
		}
	case api.List:
		for range n {
			o.Parts = append(o.Parts, api.Part{Key: kid(), Size: uint64(e.some.throw(90))})
		}
	case api.Tree:
		for i := range n {
			o.Items = append(o.Items, api.Item{Name: strconv.Itoa(i), Mode: api.File, Size: uint64(e.some.throw(90)), Key: kid()})
		}
	case api.Snap:
		o.Tree, o.Time = kid(), int64(e.some.throw(900))
		for range n - 1 {
			o.Parents = append(o.Parents, kid())
		}
	}
	k := keyOf(o)
	if _, ok := e.things[k]; !ok {
		e.things[k] = o
		e.keys = append(e.keys, k)
	}
	return o
}

// lay puts an object's record into the arena: live, with an entry of a mark, or dead; false: there is no room.
func (e *estate) lay(o api.Object, live bool, mark uint32) bool {
	k, r := keyOf(o), record(o)
	if _, ok := e.x.Get(k); ok {
		live = false
	}
	at, no := e.a.Reserve(len(r))
	if no != api.OK {
		return false
	}
	is(e.t, "written", e.a.Write(at, r), api.OK)
	is(e.t, "settled", e.a.Settle(at, len(r), live), api.OK)
	if live {
		e.x.Put(k, api.Entry{Place: at, Size: len(r), Mark: mark})
	}
	return true
}

// any is a key that was drawn, or, at times, none of an object's.
func (e *estate) any() api.Key {
	if len(e.keys) == 0 || e.some.throw(12) == 0 {
		return api.Key{byte(e.some.throw(256))}
	}
	return e.keys[e.some.throw(len(e.keys))]
}

// stir changes what stands between two collections: records, dead ones, roots, sessions; seals.
func (e *estate) stir() {
	fewer := e.some.throw(3)
	for puts := e.some.throw(70); puts > 0; puts-- {
		if !e.lay(e.draw(), e.some.throw(4) > 0, e.c.Epoch()-uint32(e.some.throw(3))) {
			break
		}
		if e.some.throw(30) == 0 {
			e.a.Seal()
		}
	}
	for k, at := range e.x.All() {
		if e.some.throw(20) < fewer {
			e.x.Del(k)
			is(e.t, "dead", e.a.Dead(at.Place, at.Size), api.OK)
		}
	}
	for _, r := range e.r.All() {
		if e.some.throw(2) == 0 {
			e.r.Drop(r.Name)
		}
	}
	for range e.some.throw(6) {
		e.r.Set("r"+strconv.Itoa(e.some.throw(40)), e.any())
	}
	for s := range api.Sessions {
		switch e.some.throw(8) {
		case 0:
			e.p.Open(s)
		case 1, 2:
			e.p.Close(s)
		}
		for range e.some.throw(3) {
			e.p.Pin(s, e.any())
		}
	}
}

// heads are the keys of the roots and of the open sessions' pins.
func (e *estate) heads() []api.Key {
	var out []api.Key
	for _, r := range e.r.All() {
		out = append(out, r.Key)
	}
	for _, s := range e.p.Sessions() {
		out = append(out, s.Pins...)
	}
	return out
}

// reached are the keys of entries to which some keys lead by way of entries.
func (e *estate) reached(heads []api.Key) map[api.Key]bool {
	out := map[api.Key]bool{}
	for len(heads) > 0 {
		k := heads[0]
		heads = heads[1:]
		if _, ok := e.x.Get(k); ok && !out[k] {
			out[k] = true
			heads = append(heads, object.Kids(e.things[k])...)
		}
	}
	return out
}

// bound is how many acts a collection that runs alone has, by its pieces.
func (e *estate) bound(live map[api.Key]bool) int {
	n := len(e.r.All()) + 1 + api.Sessions + 1 + 1 + 1
	for _, s := range e.p.Sessions() {
		n += len(s.Pins)
	}
	for range e.x.All() {
		n++
	}
	lives := make([]int, len(e.a.Segments()))
	for k := range live {
		n += 1 + len(object.Kids(e.things[k]))
		at, _ := e.x.Get(k)
		lives[at.Place.Seg] += at.Size
	}
	for i, s := range e.a.Segments() {
		if s.State <= api.SegSpare || 2*lives[i] > e.size {
			continue
		}
		n++ // it is freed
		for off := range frame.All(e.a.Bytes(i)) {
			n++
			if e.lives(live, api.Place{Seg: i, Off: off}) {
				n++ // its turn
			}
		}
	}
	return n
}

// lives tells whether the entry of one of these keys is at a place.
func (e *estate) lives(live map[api.Key]bool, at api.Place) bool {
	for k := range live {
		if entry, _ := e.x.Get(k); entry.Place == at {
			return true
		}
	}
	return false
}

// collect is a collection that runs alone, held against P19.9; how many acts it had.
func (e *estate) collect() int {
	e.t.Helper()
	live := e.reached(e.heads())
	bound, epoch := e.bound(live), e.c.Epoch()
	roots, pins := rooted(e.r.All()), pinned(e.p.Sessions())
	is(e.t, e.label+": Begin", e.c.Begin(), api.OK)
	acts := 0
	for done := false; !done; {
		var no api.Errno
		done, no = e.c.Act()
		is(e.t, e.label+": Act", no, api.OK)
		if acts++; acts > bound {
			e.t.Fatalf("P19.6: %s: more than %d acts", e.label, bound)
		}
	}
	is(e.t, "P19.6: "+e.label+": acts", acts, bound)
	is(e.t, "P19.9: "+e.label+": what it tells", told(e.c), "Rest "+strconv.Itoa(int(epoch)+1)+" false []")
	is(e.t, "P19.9: "+e.label+": the roots", rooted(e.r.All()), roots)
	is(e.t, "P19.9: "+e.label+": the pins", pinned(e.p.Sessions()), pins)
	e.left(live)
	e.worn()
	return acts
}

// left holds the entries that are left, their marks and their bytes, against those that could be come to.
func (e *estate) left(live map[api.Key]bool) {
	e.t.Helper()
	count := 0
	var rooms []api.Room
	for k, at := range e.x.All() {
		count++
		is(e.t, "P19.9: "+e.label+": it can be come to", live[k], true)
		is(e.t, "P19.9: "+e.label+": its mark", at.Mark, e.c.Epoch())
		b, no := e.a.Read(at.Place, at.Size)
		if no != api.OK || !bytes.Equal(b, record(e.things[k])) {
			e.t.Errorf("P19.9: %s: the record of %s is not what it was", e.label, word(k))
		}
		rooms = append(rooms, api.Room{Place: at.Place, Size: at.Size})
	}
	is(e.t, "P19.9: "+e.label+": entries", count, len(live))
	slices.SortFunc(rooms, func(a, b api.Room) int {
		return (a.Place.Seg-b.Place.Seg)<<20 + a.Place.Off - b.Place.Off
	})
	is(e.t, "P19.9: "+e.label+": the live rooms", roomed(e.a.Live()), roomed(rooms))
}

// worn holds the segments against P19.9, and against what is more: the spare one is there, and none is the mover's.
func (e *estate) worn() {
	e.t.Helper()
	worn, spare := 0, 0
	for _, s := range e.a.Segments() {
		if s.State == api.SegSealed && 2*s.Live <= e.size && s.Used > 0 {
			worn++
		}
		if s.State == api.SegSpare {
			spare++
		}
		is(e.t, "P19.9: "+e.label+": none is the mover's", s.State == api.SegDest, false)
		is(e.t, "P19.9: "+e.label+": nothing is pending or held", s.Pending+s.Held, 0)
	}
	if worn > 1 {
		e.t.Errorf("P19.9: %s: %d sealed segments are worn", e.label, worn)
	}
	is(e.t, "P19.9: "+e.label+": a spare", spare, 1)
}

// newEstate is one without an object.
func newEstate(t *testing.T, n int, c api.Config) *estate {
	e := &estate{world: made(t, c, uint32(n%3)), t: t, label: "estate " + strconv.Itoa(n), some: dice(1900 + n), size: c.Size}
	e.things = map[api.Key]api.Object{}
	return e
}

// P19.9: drawn arenas with a spare segment, entries, roots and sessions' pins, in rounds of changes and a collection that runs alone.
func TestFollows(t *testing.T) {
	most, kept, gone, full := 0, 0, 0, 0
	for n := range 100 {
		some := dice(n)
		c := api.Config{Segs: 3 + some.throw(12), Size: 70 + some.throw(900)}
		if n%10 == 0 {
			c = api.Config{Segs: 20, Size: 3000}
		}
		e := newEstate(t, n, c)
		for round := range 4 {
			e.label = "estate " + strconv.Itoa(n) + ", round " + strconv.Itoa(round)
			e.stir()
			before := len(slices.Collect(keysOf(e.x)))
			most = max(most, e.collect())
			kept += len(slices.Collect(keysOf(e.x)))
			gone += before - len(slices.Collect(keysOf(e.x)))
			if e.a.Segments()[0].State != api.SegFree {
				full++
			}
			if t.Failed() {
				return
			}
		}
	}
	if most < 300 || kept < 1500 || gone < 1500 || full < 50 {
		t.Errorf("drawn: %d acts at most, %d entries were left, %d taken out, %d times the first segment was used", most, kept, gone, full)
	}
}

// keysOf are the keys of an index.
func keysOf(x entries) func(yield func(api.Key) bool) {
	return func(yield func(api.Key) bool) {
		for k := range x.All() {
			if !yield(k) {
				return
			}
		}
	}
}

// P19.9: all is kept, nothing is; an arena that is as full as it may be.
func TestFollowsEnds(t *testing.T) {
	for _, kind := range []string{"all", "none", "half"} {
		e := newEstate(t, 7, api.Config{Segs: 12, Size: 400})
		e.label = kind
		for e.lay(e.draw(), true, e.c.Epoch()) {
		}
		e.p.Open(0)
		i := 0
		for k := range e.x.All() {
			if kind == "all" || kind == "half" && i%2 == 0 && e.things[k].Kind == api.Blob {
				e.p.Pin(0, k)
			}
			i++
		}
		e.collect()
		free := 0
		for _, s := range e.a.Segments() {
			if s.State == api.SegFree {
				free++
			}
		}
		if kind == "all" && free > 0 || kind == "none" && free < 11 || kind == "half" && free < 4 {
			t.Errorf("P19.9: %s: %d are free", kind, free)
		}
	}
}

// P19.9: a chain of snapshots, and a list of 128 kids, each of which is a list of 128.
func TestFollowsGreat(t *testing.T) {
	e := newEstate(t, 1, api.Config{Segs: 10, Size: api.MaxSeg})
	put := func(o api.Object) api.Key {
		k := keyOf(o)
		e.things[k] = o
		is(t, "put", e.lay(o, true, e.c.Epoch()), true)
		return k
	}
	top := put(api.Object{Kind: api.Blob, Data: []byte("first")})
	for n := range 600 {
		top = put(api.Object{Kind: api.Snap, Tree: top, Time: int64(n)})
		put(api.Object{Kind: api.Snap, Tree: top, Note: "gone"})
	}
	all := api.Object{Kind: api.List}
	for i := range api.MaxKids {
		part := api.Object{Kind: api.Tree}
		for j := range 20 {
			k := put(api.Object{Kind: api.Blob, Data: []byte{byte(i), byte(j)}})
			part.Items = append(part.Items, api.Item{Name: strconv.Itoa(100 + j), Mode: api.File, Size: 2, Key: k})
		}
		all.Parts = append(all.Parts, api.Part{Key: put(part), Size: 40})
	}
	whole := put(all)
	e.r.Set("snap", top)
	e.p.Open(15)
	e.p.Pin(15, whole)
	e.label = "great"
	e.collect()
	e.p.Close(15)
	e.collect()
	is(t, "P19.9: the chain is left", len(e.reached(e.heads())), 601)
}
