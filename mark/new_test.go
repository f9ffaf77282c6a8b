package mark_test

import (
	"strconv"
	"testing"

	"gleaner/api"
	"gleaner/arena"
	"gleaner/grey"
	"gleaner/index"
	"gleaner/mark"
)

// P16.1: New over three parts, and with any of them nil; P0.1: a zero part, which no call of its package made, is as a nil one.
func TestNew(t *testing.T) {
	s := made(t)
	arenas := []*arena.Arena{s.a, nil, {}}
	indexes := []*index.Index{s.x, nil, {}}
	lists := []*grey.List{s.l, nil, {}}
	for i, a := range arenas {
		for j, x := range indexes {
			for k, l := range lists {
				m := mark.New(a, x, l)
				is(t, "P16.1: parts "+strconv.Itoa(i)+strconv.Itoa(j)+strconv.Itoa(k)+": a marker", m != nil, i+j+k == 0)
			}
		}
	}
	for j, a := range []*arena.Arena{nil, {}} {
		nothing(t, "P16.1: what New refused "+strconv.Itoa(j), mark.New(a, s.x, s.l))
	}
}

// P16.1: New of arenas of all sizes, of one that From made, and of one that is full.
func TestNewSizes(t *testing.T) {
	for _, c := range []api.Config{{Segs: 3, Size: 64}, {Segs: 64, Size: 65536}, {Segs: 3, Size: 65536}, {Segs: 64, Size: 64}} {
		a, _ := arena.New(c)
		is(t, "P16.1: a marker", mark.New(a, index.New(), grey.New()) != nil, true)
		for at, no := a.Reserve(c.Size); no == api.OK; at, no = a.Reserve(c.Size) {
			a.Settle(at, c.Size, false)
		}
		is(t, "P16.1: a marker over one that is full", mark.New(a, index.New(), grey.New()) != nil, true)
	}
	c := api.Config{Segs: 3, Size: 64}
	a, no := arena.From(c, make([]api.Segment, 3), make([][]byte, 3), nil)
	is(t, "From", no, api.OK)
	is(t, "P16.1: a marker over one of From", mark.New(a, index.New(), grey.New()) != nil, true)
}

// P16.1: New changes nothing of its parts, whatever they have, whether it refuses or not.
func TestNewChangesNothing(t *testing.T) {
	fills := []func(s *store){
		func(s *store) {},
		func(s *store) { call(s, "push a") },
		func(s *store) { call(s, "push 0") },
		func(s *store) { call(s, "blob a") },
		func(s *store) { call(s, "blob 0") },
		func(s *store) { call(s, "blob 0"); call(s, "push 0"); call(s, "bump top") },
		func(s *store) { call(s, "tree t a b"); call(s, "mark 7 t"); call(s, "push t"); call(s, "push u") },
		func(s *store) { call(s, "blob a"); call(s, "del a"); call(s, "push a"); call(s, "pop top") },
		func(s *store) { s.x.Put(keyed("0"), api.Entry{Place: api.Place{Seg: -1, Off: 3}, Size: -7, Mark: 9}) },
	}
	for i, fill := range fills {
		s := made(t)
		fill(s)
		want, all := s.scene(), s.x.All()
		for range 40 { // many: what is done and undone might come to be seen
			if mark.New(s.a, s.x, s.l) == nil {
				t.Fatalf("P16.1: fill %d: New answers nil", i)
			}
			mark.New(nil, s.x, s.l)
			mark.New(s.a, nil, s.l)
			mark.New(s.a, s.x, nil)
			mark.New(&arena.Arena{}, s.x, s.l)
			mark.New(s.a, &index.Index{}, s.l)
			mark.New(s.a, s.x, &grey.List{})
		}
		is(t, "P16.1: fill "+strconv.Itoa(i)+": behind New", s.scene(), want)
		n := 0
		for range all {
			n++
		}
		is(t, "P16.1: a walk from before", n, s.x.Len())
	}
}

// P16.1: what another one puts, marks, pushes and takes off shows at once.
func TestBesideOthers(t *testing.T) {
	both(t, "P16.1: the index", `
		Touch 1 a           | false []
		Kids a              | ErrGone
		tree a b            | true
		Kids a              | [b]
		Touch 1 a           | true [a:0]
		Touch 1 a           | false [a:0]
		mark 2 a            | true
		Touch 1 a           | true [a:0 a:0]
		mark 2 a            | true
		Touch 2 a           | false [a:0 a:0]
		del a               | true
		Touch 3 a           | false [a:0 a:0]
		Kids a              | ErrGone
		list a c c          | true
		Kids a              | [c c]
		Touch 3 a           | true [a:0 a:0 a:0]`)
	both(t, "P16.1: the list", `
		tree a b c          | true
		blob b c            | true true
		push a              |
		Piece 1 top         | true OK [a:1 b:0]
		push a              |
		Piece 1 top         | true OK [a:1 b:0 a:1]
		pop top             |
		pop top             |
		bump top            |
		Piece 1 top         | true OK []
		Piece 1 top         | false OK []
		marks               | a=0 b=1 c=0`)
	both(t, "P16.1: the arena", `
		tree a b            | true
		Kids a              | [b]
		spoil a             |
		Kids a              | ErrBroken
		push a              |
		Piece 1 bottom      | true ErrBroken []
		spoil a             |
		Kids a              | [b]`)
}

// P16.1: what the marker does shows to the others at once.
func TestOthersSee(t *testing.T) {
	s := made(t)
	call(s, "tree a b")
	call(s, "blob b")
	s.Touch(keyed("a"), 4)
	e, _ := s.x.Get(keyed("a"))
	is(t, "P16.1: the index", e.Mark, 4)
	g, ok := s.l.Top()
	is(t, "P16.1: the list", g, api.Grey{Key: keyed("a")})
	is(t, "P16.1: the list", ok, true)
	s.Piece(4, true)
	is(t, "P16.1: both", tinted(s.marks())+" "+greyed(s.greys()), "a=4 b=4 [a:1 b:0]")
}

// P16.1: several markers over the same three parts are as one.
func TestTogether(t *testing.T) {
	s := made(t)
	other := mark.New(s.a, s.x, s.l)
	two := &store{other, s.a, s.x, s.l}
	plays(t, "one", s, `
		tree t a b          | true
		blob a b            | true true
		Touch 1 t           | true [t:0]`)
	plays(t, "the other", two, `
		Touch 1 t           | false [t:0]
		Piece 1 top         | true OK [t:1 a:0]`)
	plays(t, "the one again", s, `
		Piece 1 bottom      | true OK [t:2 a:0 b:0]`)
	plays(t, "the other again", two, `
		Piece 1 bottom top top top | true OK [a:0 b:0] true OK [a:0] true OK [] false OK []
		marks               | a=1 b=1 t=1`)
}

// P0.1: markers over other parts know nothing of one another; of the parts each may be shared alone.
func TestApart(t *testing.T) {
	s, z := made(t), made(t)
	plays(t, "one", s, `
		tree t a            | true
		Touch 1 t           | true [t:0]`)
	plays(t, "another", z, `
		Touch 1 t           | false []
		Kids t              | ErrGone
		Piece 1 top         | false OK []
		tree t b b          | true
		Kids t              | [b b]`)
	lists := &store{mark.New(s.a, s.x, z.l), s.a, s.x, z.l}
	plays(t, "another list", lists, `
		Touch 2 t           | true [t:0]
		Piece 2 top         | true OK [t:1]`)
	is(t, "the first list", greyed(s.greys()), "[t:0]")
	indexes := &store{mark.New(s.a, z.x, s.l), s.a, z.x, s.l}
	plays(t, "another index: its entry's place, in the first arena", indexes, `
		Kids t              | ErrBroken
		marks               | t=0
		Piece 5 top         | true ErrBroken []`)
}

// nothing holds every call's answer against what a nil marker's is to be.
func nothing(t *testing.T, what string, m *mark.Marker) {
	t.Helper()
	for range 2 {
		for _, k := range keysOf([]string{"0", "a", "~"}) {
			for _, n := range []uint32{0, 1, 1<<32 - 1} {
				is(t, what+": Touch", m.Touch(k, n), false)
				for _, bottom := range []bool{false, true} {
					is(t, what+": Piece", pieceTold(m.Piece(n, bottom)), "false ErrNil")
				}
			}
			is(t, what+": Kids", kidsTold(m.Kids(k)), "ErrNil")
		}
	}
}

// P16.1: every call on a nil Marker; P0.1: a zero one is as a nil one.
func TestNil(t *testing.T) {
	nothing(t, "P16.1: nil", nil)
	nothing(t, "P0.1: zero", &mark.Marker{})
	s := made(t)
	nothing(t, "P16.1: of no list", mark.New(s.a, s.x, nil))
}
