package sweep_test

import (
	"math"
	"strconv"
	"testing"

	"gleaner/api"
	"gleaner/arena"
	"gleaner/index"
	"gleaner/sweep"
)

// P17.1: New over an arena and an index, with each of them nil, and both; P0.1: a zero part, which no call of its package made, is as a nil one.
func TestNew(t *testing.T) {
	s := made(t)
	call(s, "put a=4/0")
	for i, a := range []*arena.Arena{s.a, nil, {}} {
		for j, x := range []*index.Index{s.x, nil, {}} {
			for _, epoch := range []uint32{0, 5, math.MaxUint32} {
				got := sweep.New(a, x, epoch)
				is(t, "P17.1: parts "+strconv.Itoa(i)+strconv.Itoa(j)+": a sweeper", got != nil, i+j == 0)
			}
		}
	}
	nothing(t, "P17.1: of no arena", sweep.New(nil, s.x, 5))
	nothing(t, "P17.1: of no index", sweep.New(s.a, nil, 5))
	nothing(t, "P17.1: of neither", sweep.New(nil, nil, 5))
	nothing(t, "P0.1: of a zero arena", sweep.New(&arena.Arena{}, s.x, 5))
	plays(t, "P17.1: behind it", s, `
		keys     | a=4/0
		gone     | []`)
}

// P17.1: New of arenas of all sizes, of one that is full, and of one that From made.
func TestNewSizes(t *testing.T) {
	for _, c := range []api.Config{{Segs: 3, Size: 64}, {Segs: 64, Size: 65536}, {Segs: 3, Size: 65536}, {Segs: 64, Size: 64}} {
		a, _ := arena.New(c)
		is(t, "P17.1: a sweeper", sweep.New(a, index.New(), 0) != nil, true)
		for at, no := a.Reserve(c.Size); no == api.OK; at, no = a.Reserve(c.Size) {
			a.Settle(at, c.Size, false)
		}
		is(t, "P17.1: a sweeper over one that is full", sweep.New(a, index.New(), 1) != nil, true)
	}
	segs := []api.Segment{{State: api.SegSealed, Used: 9, Live: 9}, {}, {}}
	r := api.Room{Size: 9}
	a, no := arena.From(api.Config{Segs: 3, Size: 64}, segs, [][]byte{make([]byte, 9), nil, nil}, []api.Room{r})
	is(t, "From", no, api.OK)
	x := index.New()
	x.Put(keyed("a"), api.Entry{Place: r.Place, Size: r.Size, Mark: 1})
	s := &store{sweep.New(a, x, 2), a, x}
	plays(t, "P17.2: over one of From", s, `
		Act 2    | false true
		Removed  | 1
		keys     |`)
	is(t, "P17.2: over one of From: Live", a.Segments()[0].Live, 0)
}

// P17.1: New changes neither of its parts, whatever they have, whether it refuses or not.
func TestNewChangesNothing(t *testing.T) {
	for i, fill := range []string{"put", "put a=4/0", "put 0=4/0", "put 0=4/none", "put 0=5/1 a=4/2 ~=3/far", "del a", "dead 1 2 3"} {
		s := &store{a: filled(t), x: index.New()}
		call(s, fill)
		want, all := s.scene(), s.x.All()
		for range 40 { // many: what is done and undone might come to be seen
			if sweep.New(s.a, s.x, 9) == nil {
				t.Fatalf("P17.1: fill %d: New answers nil", i)
			}
			sweep.New(nil, s.x, 9)
			sweep.New(s.a, nil, 9)
			sweep.New(&arena.Arena{}, s.x, 9)
			sweep.New(s.a, &index.Index{}, 9)
		}
		is(t, "P17.1: fill "+strconv.Itoa(i)+": behind New", s.scene(), want)
		n := 0
		for range all {
			n++
		}
		is(t, "P17.1: a walk from before", n, s.x.Len())
	}
}

// P17.1: New has looked at no entry: the first act looks at the least one, whatever other sweepers looked at.
func TestNewAnew(t *testing.T) {
	both(t, "P17.1: anew", `
		put 0=5/0 a=5/1 b=4/2    | true true true
		Act 4                    | false false false true
		Removed                  | 1
		New 6                    |
		Removed                  | 0
		Act                      | false
		keys                     | a=5/1
		Removed                  | 1
		New 5                    |
		Act 2                    | false true
		Removed                  | 0
		keys                     | a=5/1
		New 6                    |
		Act 2                    | false true
		keys                     |
		gone                     | [0 1 2]`)
}

// P17.1: what another one puts, marks and takes out shows at the next act; so does what is done to the arena.
func TestBesideOthers(t *testing.T) {
	both(t, "P17.1: the index", `
		Act                      | true
		put b=4/0                | true
		Act 2                    | false true
		keys                     |
		gone                     | [0]
		put c=4/1 d=4/2 e=4/3    | true true true
		mark 5 c                 | true
		Act                      | false
		del d                    | true
		mark 3 e                 | true
		Act 2                    | false true
		keys                     | c=5/1
		gone                     | [0 3]
		Removed                  | 2`)
	both(t, "P17.1: the arena", `
		put b=4/0 c=4/1          | true true
		dead 0                   | true
		Act                      | false
		dead 1                   | true
		Act 2                    | false true
		dead 0 1 2               | false false true
		gone                     | [0 1 2]
		Removed                  | 2`)
}

// P17.1: what the sweeper does shows to the others at once.
func TestOthersSee(t *testing.T) {
	s := made(t)
	call(s, "put a=4/0 b=4/3")
	s.Act()
	_, ok := s.x.Get(keyed("a"))
	is(t, "P17.1: the entry", ok, false)
	is(t, "P17.1: the index's length", s.x.Len(), 1)
	is(t, "P17.1: the segment's live bytes", s.a.Segments()[0].Live, 193)
	is(t, "P17.1: the room is dead", s.dead(room(0)), api.ErrRoom)
	is(t, "P17.1: another one is not", s.dead(room(1)), api.OK)
	is(t, "P17.1: the entry may be put again", call(s, "put a=1/2"), "true")
}

// P17.1: several sweepers over the same parts: each has a place, an epoch and a count of its own.
func TestTogether(t *testing.T) {
	s := made(t)
	call(s, "put a=1/0 b=2/1 c=1/2 d=2/3 e=3/4")
	one, two := sweep.New(s.a, s.x, 1), sweep.New(s.a, s.x, 2)
	is(t, "one: a", one.Act(), false)
	is(t, "two: a", two.Act(), false)
	is(t, "two: b", two.Act(), false)
	is(t, "P17.1: a is out", listed(s.entries()), "b=2/1 c=1/2 d=2/3 e=3/4")
	is(t, "one: b", one.Act(), false)
	is(t, "one: c", one.Act(), false)
	is(t, "two: c", two.Act(), false)
	is(t, "P17.1: b and c are out", listed(s.entries()), "d=2/3 e=3/4")
	is(t, "one: d", one.Act(), false)
	is(t, "two: e", two.Act(), false)
	is(t, "one: none", one.Act(), true)
	is(t, "two: none", two.Act(), true)
	is(t, "P17.3: one", one.Removed(), 2)
	is(t, "P17.3: two", two.Removed(), 3)
	is(t, "P17.1: nothing is left", listed(s.entries()), "")
	is(t, "P17.1: the rooms", gone(s.live()), "[0 1 2 3 4]")
}

// P0.1: sweepers over other parts know nothing of one another; of the parts each may be shared alone.
func TestApart(t *testing.T) {
	s, z := made(t), made(t)
	call(s, "put a=4/0 b=4/1")
	call(z, "put a=4/0 b=4/1")
	s.Act()
	is(t, "P0.1: another one", listed(z.entries())+" "+gone(z.live()), "a=4/0 b=4/1 []")
	mixed := &store{sweep.New(s.a, z.x, 5), s.a, z.x}
	plays(t, "P0.1: another index", mixed, `
		Act 3    | false false true
		Removed  | 2
		keys     |
		gone     | [0 1]`)
	plays(t, "P0.1: the first index", s, `
		keys     | b=4/1
		Removed  | 1
		Act 2    | false true
		Removed  | 2`)
	plays(t, "P0.1: the other arena", z, `
		gone     | []
		Act      | true
		Removed  | 0`)
}

// nothing holds every call's answer against what a nil sweeper's is to be.
func nothing(t *testing.T, what string, s *sweep.Sweeper) {
	t.Helper()
	for range 3 {
		is(t, what+": Act", s.Act(), true)
		is(t, what+": Removed", s.Removed(), 0)
	}
}

// P17.3, P17.6: every call on a nil Sweeper; P0.1: a zero one is as a nil one.
func TestNil(t *testing.T) {
	nothing(t, "P17.3: nil", nil)
	nothing(t, "P0.1: zero", &sweep.Sweeper{})
}
