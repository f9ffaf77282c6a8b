package arena_test

import (
	"math"
	"slices"
	"strconv"
	"testing"

	"gleaner/api"
	"gleaner/arena"
)

// told is what From is told.
type told struct {
	c     api.Config
	segs  []api.Segment
	bytes [][]byte
	live  []api.Room
}

func room(seg, off, size int) api.Room {
	return api.Room{Place: api.Place{Seg: seg, Off: off}, Size: size}
}

// good is what From takes: a segment in each state that may be, and one more that is sealed. Of the live rooms some lie side by side, some not, and they do not stand in their order.
func good() *told {
	return &told{
		c: api.Config{Segs: 5, Size: 100},
		segs: []api.Segment{
			{State: api.SegSealed, Used: 100, Live: 60},
			{State: api.SegFree},
			{State: api.SegOpen, Used: 40, Live: 7},
			{State: api.SegSpare},
			{State: api.SegSealed, Used: 30},
		},
		bytes: [][]byte{rising(100, 1), nil, rising(40, 200), {}, rising(30, 77)},
		live:  []api.Room{room(2, 33, 7), room(0, 30, 20), room(0, 0, 30), room(0, 90, 10)},
	}
}

func (x *told) from() (*arena.Arena, api.Errno) { return arena.From(x.c, x.segs, x.bytes, x.live) }

// taken is the arena of what From is to take.
func (x *told) taken(t *testing.T, what string) *arena.Arena {
	t.Helper()
	a, no := x.from()
	if a == nil || no != api.OK {
		t.Fatalf("P10.2: %s: %s", what, name(no))
	}
	if !slices.Equal(a.Segments(), x.segs) || a.Config() != x.c || len(a.Pending()) != 0 {
		t.Errorf("P10.2: %s: %s", what, whole(a))
	}
	for i, b := range x.bytes {
		if !slices.Equal(a.Bytes(i), b) {
			t.Errorf("P10.2: %s: the bytes of segment %d: %v", what, i, a.Bytes(i))
		}
	}
	return a
}

// refused holds From's answer against an error.
func (x *told) refused(t *testing.T, what string, want api.Errno) {
	t.Helper()
	if a, no := x.from(); a != nil || no != want {
		t.Errorf("P10.2: %s: %s, not %s", what, name(no), name(want))
	}
}

// P10.2: what may be is as it was told, and goes on from there.
func TestFrom(t *testing.T) {
	a := good().taken(t, "a good one")
	plays(t, "P10.2", a, `
		segments            | x100 60 0 0, f0 0 0 0, o40 7 0 0, s0 0 0 0, x30 0 0 0
		Live                | 0.0+30 0.30+20 0.90+10 2.33+7
		Pending             |
		Victims             | 4
		Write 2 40 0 0      | ErrRoom
		Settle 2 33 7 1     | ErrRoom
		Write 2 33 7 0      | ErrRoom
		Let 0               | ErrSeg
		Reserve 60          | 2.40 OK
		Read 2 38 4         | eeef0000 OK
		Write 2 40 60 1     | OK
		Reserve 1           | 1.0 OK
		ReserveDest 100     | 3.0 OK
		Free 4              | OK
		Dead 0 30 19        | ErrRoom
		Dead 0 30 20        | OK
		Live                | 0.0+30 0.90+10 2.33+7
		segments            | x100 40 0 0, o1 0 1 0, x100 7 1 0, m100 0 1 0, s0 0 0 0
		Victims             | 0`)
	x := good()
	x.bytes = [][]byte{rising(100, 1), {}, rising(40, 200), make([]byte, 0, 5), rising(30, 77)}
	is(t, "P10.2: no bytes and nil are the same", whole(x.taken(t, "no bytes")), whole(good().taken(t, "a good one")))
}

// P10.2: the least and the greatest that may be, and states of which there may be none or several.
func TestFromEdges(t *testing.T) {
	for what, turn := range map[string]func(*told){
		"no open one":           func(x *told) { x.segs[2].State = api.SegSealed },
		"no spare one":          func(x *told) { x.segs[3].State = api.SegFree },
		"no free one":           func(x *told) { x.segs[1].State = api.SegSealed },
		"an open one, empty":    func(x *told) { x.segs[2], x.bytes[2], x.live = api.Segment{State: api.SegOpen}, nil, x.live[1:] },
		"a sealed one, empty":   func(x *told) { x.segs[4], x.bytes[4] = api.Segment{State: api.SegSealed}, nil },
		"an open one, full":     func(x *told) { x.segs[2].Used, x.bytes[2] = 100, rising(100, 9) },
		"a room of all of it":   func(x *told) { x.segs[4].Live, x.live = 30, append(x.live, room(4, 0, 30)) },
		"a room of one byte":    func(x *told) { x.segs[4].Live, x.live = 1, append(x.live, room(4, 29, 1)) },
		"between two, just so":  func(x *told) { x.segs[0].Live, x.live = 100, append(x.live, room(0, 50, 40)) },
		"no rooms":              func(x *told) { x.segs[0].Live, x.segs[2].Live, x.live = 0, 0, nil },
		"an Off of others":      func(x *told) { x.segs[4].Live, x.live = 10, append(x.live, room(4, 0, 10)) },
		"five free ones":        func(x *told) { x.segs, x.bytes, x.live = make([]api.Segment, 5), make([][]byte, 5), nil },
		"the greatest segments": func(x *told) { x.c.Size, x.segs[4].Used, x.bytes[4] = 65536, 65536, rising(65536, 3) },
	} {
		x := good()
		turn(x)
		a := x.taken(t, what)
		slices.SortFunc(x.live, func(y, z api.Room) int {
			return (y.Place.Seg-z.Place.Seg)*1000 + y.Place.Off - z.Place.Off
		})
		is(t, "P10.2: "+what, rooms(a.Live()), rooms(x.live))
	}
	x := good()
	x.segs[3].State = api.SegFree
	plays(t, "P10.2: without a spare", x.taken(t, "no spare one"), `
		ReserveDest 100     | 1.0 OK
		ReserveDest 1       | 3.0 OK
		ReserveDest 100     | ErrFull
		Finish              | -
		states              | xxoxx
		Free 4              | OK
		states              | xxoxs`)
}

// reason is something that From refuses; rank is its place in the chapter's order.
type reason struct {
	what string
	rank int
	turn func(*told)
}

// reasons are those that the chapter names. Each leaves standing what the others have turned; those that cut lists come last.
var reasons = []reason{
	{"too few segments", 1, func(x *told) { x.c.Segs = 2 }},
	{"too great segments", 1, func(x *told) { x.c.Size = 65537 }},
	{"the mover's", 2, func(x *told) { x.segs[4].State = api.SegDest }},
	{"no such state", 2, func(x *told) { x.segs[4].State = 5 }},
	{"the greatest state", 2, func(x *told) { x.segs[4].State = 255 }},
	{"Used below 0", 2, func(x *told) { x.segs[1].Used = -1 }},
	{"Used of the least", 2, func(x *told) { x.segs[1].Used = math.MinInt }},
	{"Used above Size", 2, func(x *told) { x.segs[0].Used, x.bytes[0] = 101, rising(101, 1) }},
	{"Used is more than the bytes", 2, func(x *told) { x.segs[4].Used++ }},
	{"Used is less than the bytes", 2, func(x *told) { x.segs[0].Used-- }},
	{"a free one that is used", 2, func(x *told) { x.segs[1].Used, x.bytes[1] = 1, []byte{0} }},
	{"a spare one that is used", 2, func(x *told) { x.segs[3].Used, x.bytes[3] = 1, []byte{0} }},
	{"a free one with bytes", 2, func(x *told) { x.bytes[1] = []byte{0} }},
	{"Pending", 2, func(x *told) { x.segs[2].Pending = 1 }},
	{"Pending below 0", 2, func(x *told) { x.segs[0].Pending = -1 }},
	{"Pending in a free one", 2, func(x *told) { x.segs[1].Pending = 1 }},
	{"Held", 2, func(x *told) { x.segs[4].Held = 1 }},
	{"Held below 0", 2, func(x *told) { x.segs[2].Held = -1 }},
	{"Held, the spare", 2, func(x *told) { x.segs[3].Held = 1 }},
	{"two open ones", 2, func(x *told) { x.segs[0].State = api.SegOpen }},
	{"two spare ones", 2, func(x *told) { x.segs[1].State = api.SegSpare }},
	{"a room of no byte", 3, func(x *told) { x.live = append(x.live, room(4, 5, 0)) }},
	{"a room of no byte in one without bytes", 3, func(x *told) { x.live = append(x.live, room(1, 0, 0)) }},
	{"a Size below 0", 3, func(x *told) { x.live = append(x.live, room(4, 5, -1)) }},
	{"the least Size", 3, func(x *told) { x.live = append(x.live, room(4, 5, math.MinInt)) }},
	{"a room behind the used bytes", 3, func(x *told) { x.live = append(x.live, room(4, 30, 1)) }},
	{"a room that goes beyond them", 3, func(x *told) { x.live = append(x.live, room(4, 25, 6)) }},
	{"a room that goes beyond the open one's", 3, func(x *told) { x.live = append(x.live, room(2, 40, 1)) }},
	{"a room beyond the segment", 3, func(x *told) { x.live = append(x.live, room(0, 100, 1)) }},
	{"a room in a free one", 3, func(x *told) { x.live = append(x.live, room(1, 0, 1)) }},
	{"a room ahead of the segment", 3, func(x *told) { x.live = append(x.live, room(4, -1, 2)) }},
	{"the least Off", 3, func(x *told) { x.live = append(x.live, room(4, math.MinInt, 2)) }},
	{"the greatest Off", 3, func(x *told) { x.live = append(x.live, room(4, math.MaxInt, 2)) }},
	{"the greatest Size", 3, func(x *told) { x.live = append(x.live, room(4, 1, math.MaxInt)) }},
	{"the greatest of both", 3, func(x *told) { x.live = append(x.live, room(4, math.MaxInt, math.MaxInt)) }},
	{"a segment below 0", 3, func(x *told) { x.live = append(x.live, room(-1, 0, 1)) }},
	{"a segment too far", 3, func(x *told) { x.live = append(x.live, room(5, 0, 1)) }},
	{"the least segment", 3, func(x *told) { x.live = append(x.live, room(math.MinInt, 0, 1)) }},
	{"the greatest segment", 3, func(x *told) { x.live = append(x.live, room(math.MaxInt, 0, 1)) }},
	{"one room twice", 3, func(x *told) { x.live = append(x.live, room(0, 90, 10)) }},
	{"one place, two sizes", 3, func(x *told) { x.live = append(x.live, room(0, 0, 1)) }},
	{"a byte in common with the next", 3, func(x *told) { x.live = append(x.live, room(0, 50, 41)) }},
	{"a byte in common with the last", 3, func(x *told) { x.live = append(x.live, room(0, 49, 41)) }},
	{"a room within one", 3, func(x *told) { x.live = append(x.live, room(0, 35, 2)) }},
	{"a room around one", 3, func(x *told) { x.live = append(x.live, room(0, 80, 20)) }},
	{"a room over all", 3, func(x *told) { x.live = append(x.live, room(0, 0, 100)) }},
	{"a Live that is more", 4, func(x *told) { x.segs[0].Live = 61 }},
	{"a Live that is less", 4, func(x *told) { x.segs[0].Live = 59 }},
	{"a Live where no room is", 4, func(x *told) { x.segs[4].Live = 1 }},
	{"a Live below 0", 4, func(x *told) { x.segs[4].Live = -1 }},
	{"a Live of a free one", 4, func(x *told) { x.segs[1].Live = 1 }},
	{"a Live of the spare one", 4, func(x *told) { x.segs[3].Live = 1 }},
	{"no Live, though there is a room", 4, func(x *told) { x.segs[2].Live = 0 }},
	{"a room that no Live tells of", 4, func(x *told) { x.live = append(x.live, room(4, 3, 3)) }},
	{"a Live whose room is missing", 4, func(x *told) { x.live = x.live[1:] }},
	{"the Lives of two, changed about", 4, func(x *told) { x.segs[2].Live, x.segs[4].Live = x.segs[4].Live, x.segs[2].Live }},
	{"a segment too few", 2, func(x *told) { x.segs = x.segs[:4] }},
	{"a segment too many", 2, func(x *told) { x.segs = append(x.segs, api.Segment{}) }},
	{"no segments", 2, func(x *told) { x.segs = nil }},
	{"bytes too few", 2, func(x *told) { x.bytes = x.bytes[:4] }},
	{"bytes too many", 2, func(x *told) { x.bytes = append(x.bytes, nil) }},
	{"no bytes", 2, func(x *told) { x.bytes = nil }},
}

// due is the error that a rank stands for.
func due(rank int) api.Errno {
	return []api.Errno{api.OK, api.ErrArg, api.ErrSeg, api.ErrRoom, api.ErrSeg}[rank]
}

// P10.2: each reason alone, and each two of them at once: the first that applies.
func TestFromRefused(t *testing.T) {
	for i, r := range reasons {
		x := good()
		r.turn(x)
		x.refused(t, r.what, due(r.rank))
		for _, s := range reasons[i+1:] {
			if r.rank == 4 && s.rank == 4 {
				continue // two wrong sums may make a right one
			}
			x := good()
			r.turn(x)
			s.turn(x)
			x.refused(t, r.what+"; "+s.what, due(min(r.rank, s.rank)))
		}
	}
}

// P10.2: drawn rooms: held against a count of each byte.
func TestFromRooms(t *testing.T) {
	x := dice(102)
	seen := map[api.Errno]int{}
	for i := range 20000 {
		f := &told{c: api.Config{Segs: 3, Size: 64}, segs: make([]api.Segment, 3), bytes: make([][]byte, 3)}
		for seg := range f.segs {
			used := x.throw(20)
			f.segs[seg], f.bytes[seg] = api.Segment{State: api.SegSealed, Used: used}, make([]byte, used)
		}
		want := api.OK
		var count [3][20]int
		for range x.throw(6) {
			r := room(x.throw(3), x.throw(19), 1+x.throw(6))
			f.live = append(f.live, r)
			f.segs[r.Place.Seg].Live += r.Size
			for n := range r.Size {
				off := r.Place.Off + n
				if off >= f.segs[r.Place.Seg].Used {
					want = api.ErrRoom
					break
				}
				if count[r.Place.Seg][off]++; count[r.Place.Seg][off] > 1 {
					want = api.ErrRoom
				}
			}
		}
		seen[want]++
		if want == api.OK {
			f.taken(t, "draw "+strconv.Itoa(i))
		} else {
			f.refused(t, "draw "+strconv.Itoa(i), want)
		}
	}
	if seen[api.OK] < 1000 || seen[api.ErrRoom] < 1000 {
		t.Error("what was drawn:", seen)
	}
}

// P0.1: what From was handed is not changed, spare room included, and not kept.
func TestFromApart(t *testing.T) {
	x := good()
	for i, b := range x.bytes {
		x.bytes[i] = roomy(b)
	}
	x.bytes = append(x.bytes, []byte{42})[:5]
	x.segs = append(x.segs, api.Segment{Used: 42})[:5]
	x.live = append(x.live, room(42, 42, 42))[:4]
	a := x.taken(t, "with spare room")
	was := whole(a)
	y := good()
	if !slices.Equal(x.segs, y.segs) || !slices.Equal(x.live, y.live) || x.segs[:6][5].Used != 42 || x.live[:5][4] != room(42, 42, 42) || x.bytes[:6][5][0] != 42 {
		t.Error("P0.1: From changed what it was handed")
	}
	for i, b := range x.bytes {
		if !untouched(b, y.bytes[i]) {
			t.Errorf("P0.1: From changed the bytes of segment %d", i)
		}
		scribble(b)
		x.bytes[i] = []byte("others")
	}
	for i := range x.segs {
		x.segs[i] = api.Segment{State: api.SegOpen, Used: 7, Live: 7, Pending: 7, Held: 7}
	}
	for i := range x.live {
		x.live[i] = room(4, i, 1)
	}
	is(t, "P0.1: From kept what it was handed", whole(a), was)

	x = good()
	for i, b := range x.bytes {
		x.bytes[i] = roomy(b)
	}
	a = x.taken(t, "with spare room")
	plays(t, "P10.2", a, `
		Reserve 60          | 2.40 OK
		Write 2 40 60 1     | OK
		Free 4              | OK
		Reserve 50          | 1.0 OK
		Write 1 0 50 1      | OK`)
	for i, b := range x.bytes {
		if !untouched(b, y.bytes[i]) {
			t.Errorf("P0.1: a call later changed what From was handed for segment %d", i)
		}
	}
}

// P0.1: two arenas of one telling go their ways apart.
func TestFromTwice(t *testing.T) {
	x := good()
	a, b := x.taken(t, "one"), x.taken(t, "the other")
	was := whole(b)
	plays(t, "P10.2", a, `
		Dead 0 30 20        | OK
		Reserve 10          | 2.40 OK
		Write 2 40 10 1     | OK
		Hold 0              | OK`)
	is(t, "P0.1: the other one", whole(b), was)
}
