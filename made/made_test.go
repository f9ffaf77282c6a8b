package made_test

import (
	"strconv"
	"testing"

	"gleaner/api"
	"gleaner/arena"
	"gleaner/index"
	"gleaner/made"
	"gleaner/pins"
	"gleaner/roots"
)

// P0.1: of arenas of all sizes, of one that is full, and of one that From made; of a nil one and a zero one.
func TestArena(t *testing.T) {
	for _, c := range []api.Config{{Segs: 3, Size: 64}, {Segs: 64, Size: 65536}, {Segs: 3, Size: 65536}, {Segs: 64, Size: 64}} {
		a, _ := arena.New(c)
		if !made.Arena(a) {
			t.Errorf("P0.1: %v: it is not made", c)
		}
		for at, no := a.Reserve(c.Size); no == api.OK; at, no = a.Reserve(c.Size) {
			a.Settle(at, c.Size, true)
		}
		if !made.Arena(a) {
			t.Errorf("P0.1: %v, full: it is not made", c)
		}
	}
	a, no := arena.From(api.Config{Segs: 3, Size: 64}, make([]api.Segment, 3), make([][]byte, 3), nil)
	if no != api.OK || !made.Arena(a) {
		t.Error("P0.1: of From: it is not made")
	}
	refused, _ := arena.New(api.Config{})
	for i, a := range []*arena.Arena{nil, {}, refused} {
		if made.Arena(a) {
			t.Errorf("P0.1: none %d: it is made", i)
		}
	}
}

// shown is all that an index tells.
func shown(x *index.Index) string {
	out := strconv.Itoa(x.Len())
	for _, n := range x.Sizes() {
		out += " " + strconv.Itoa(n)
	}
	for k, e := range x.All() {
		out += "\n" + string(k[:]) + strconv.Itoa(e.Place.Seg) + "." + strconv.Itoa(e.Place.Off) + " " + strconv.Itoa(e.Size) + " " + strconv.Itoa(int(e.Mark))
	}
	return out
}

// P0.1: of indexes without an entry, with some, with the zero key, and of one that has none any more; each is as it was behind it, however often it is asked. Of a nil one and a zero one.
func TestIndex(t *testing.T) {
	e := api.Entry{Place: api.Place{Seg: -1, Off: 4}, Size: 9, Mark: 7}
	for _, some := range [][]api.Key{{}, {{}}, {{1}}, {{}, {31: 1}, {0xff}}} {
		x := index.New()
		for _, k := range some {
			x.Put(k, e)
		}
		want := shown(x)
		for range 50 {
			if !made.Index(x) || shown(x) != want {
				t.Fatalf("P0.1: of %d: it is not made, or not as it was", len(some))
			}
		}
		for _, k := range some {
			if was, ok := x.Del(k); !ok || was != e || !made.Index(x) {
				t.Errorf("P0.1: of %d: its entry, or it is not made behind it", len(some))
			}
		}
	}
	for i, x := range []*index.Index{nil, {}} {
		if made.Index(x) || made.Index(x) || x.Len() != 0 {
			t.Errorf("P0.1: none %d: it is made", i)
		}
	}
}

// P0.1: of tables of roots without a root, with some, of From, and of one that has none any more; each is as it was behind it. Of a nil one, a zero one, and what From refused.
func TestRoots(t *testing.T) {
	r := roots.New()
	from, no := roots.From([]api.Root{{Name: "a"}, {Name: "b", Key: api.Key{1}}})
	if !made.Roots(r) || no != api.OK || !made.Roots(from) || from.Version() != 0 || from.Len() != 2 {
		t.Error("P0.1: roots: it is not made, or not as it was")
	}
	for i, name := range []string{"a", "b", "a"} {
		if r.Set(name, api.Key{5}) != api.OK || !made.Roots(r) || r.Version() != uint64(i+1) {
			t.Errorf("P0.1: roots, change %d: it is not made, or not as it was", i)
		}
	}
	if r.Drop("a") != api.OK || r.Drop("b") != api.OK || !made.Roots(r) || r.Len() != 0 || r.Version() != 5 {
		t.Error("P0.1: roots that are dropped: it is not made, or not as it was")
	}
	refused, _ := roots.From([]api.Root{{}})
	for i, r := range []*roots.Roots{nil, {}, refused} {
		if made.Roots(r) {
			t.Errorf("P0.1: no roots %d: they are made", i)
		}
	}
}

// P0.1: of sessions, however many are open, and busy; each is as it was behind it. Of nil ones and zero ones.
func TestPins(t *testing.T) {
	p := pins.New()
	for s := range api.Sessions + 1 {
		if !made.Pins(p) || len(p.Sessions()) != s {
			t.Errorf("P0.1: %d sessions: they are not made, or not as they were", s)
		}
		p.Open(s)
		p.Enter(s)
	}
	for s := range api.Sessions {
		if !made.Pins(p) || p.Busy(s) != 1 {
			t.Errorf("P0.1: session %d: they are not made, or not as they were", s)
		}
		p.Leave(s)
		p.Close(s)
	}
	if !made.Pins(p) {
		t.Error("P0.1: sessions that are closed: they are not made")
	}
	for i, p := range []*pins.Pins{nil, {}} {
		if made.Pins(p) {
			t.Errorf("P0.1: no sessions %d: they are made", i)
		}
	}
}
