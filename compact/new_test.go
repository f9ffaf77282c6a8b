package compact_test

import (
	"strconv"
	"testing"

	"gleaner/api"
	"gleaner/arena"
	"gleaner/compact"
	"gleaner/index"
)

// P18.1: New over an arena and an index, over each of them nil, and both; P0.1: a zero part, which no call of its package made, is as a nil one.
func TestNew(t *testing.T) {
	s := made(t, usual)
	call(s, "put a20")
	want := scene(s)
	arenas, indexes := []*arena.Arena{nil, {}, s.Arena}, []*index.Index{nil, {}, s.Index}
	for i, a := range arenas {
		for j, x := range indexes {
			if i+j == 4 {
				continue
			}
			what := "P18.1: parts " + strconv.Itoa(i) + strconv.Itoa(j)
			m := compact.New(a, x)
			is(t, what+": none", m == nil, true)
			nothing(t, what, m)
			is(t, what+": nothing has happened", scene(s), want)
		}
	}
	s.begin()
	is(t, "P18.1: a mover", s.Mover != nil, true)
	is(t, "P18.1: the open segment is sealed", call(s, "segs"), "x30/30 f f s")
}

// P18.1: the mover's row is what Victims answers, in that order, and nothing was done yet.
func TestNewRow(t *testing.T) {
	both(t, "P18.1: one, open", `
		put a20                  | 0.0
		segs                     | o30/30 f f s
		New                      |
		segs                     | x30/30 f f s
		Todo                     | 0
		At                       | 0.0
		counts                   | 0 0 0
		Ready                    | true
		entries                  | a20=0.0+30/1`)
	bothOf(t, "P18.1: several, by live bytes, then by number", api.Config{Segs: 8, Size: 100}, `
		put a40 b40 c40 d40      | 0.0 0.50 1.0 1.50
		put e40 f40 g40 h40 i40  | 2.0 2.50 3.0 3.50 4.0
		put j40 k20 l20          | 4.50 5.0 5.30
		sweep a40 c40 d40 f40    | OK OK OK OK
		sweep i40 l20            | OK OK
		segs                     | x100/50 x100/0 x100/50 x100/100 x100/50 o60/30 f s
		New                      |
		segs                     | x100/50 x100/0 x100/50 x100/100 x100/50 x60/30 f s
		Todo                     | 1 5 0 2 4
		At                       | 1.0
		counts                   | 0 0 0
		Ready                    | true`)
	both(t, "P18.1: just half, and one byte more", `
		put a40 b40 c41          | 0.0 0.50 1.0
		waste d30                | 1.51
		put e39                  | 2.0
		sweep b40                | OK
		New                      |
		Todo                     | 2 0`)
	both(t, "P18.1: what is pending keeps a segment out of it", `
		put a10                  | 0.0
		reserve 70 30            | 0.20 1.0
		live 1.0+30              | OK
		New                      |
		segs                     | x90/20p x30/30 f s
		Todo                     | 1
		lost 0.20+70             | OK
		Todo                     | 1
		Act 5                    | false true true true true
		New                      |
		Todo                     | 0 1`)
}

// P18.1: an arena without a victim: the mover has nothing to do but to finish.
func TestNewNoVictim(t *testing.T) {
	both(t, "P18.1: an arena without a record", `
		New                      |
		Todo                     |
		At                       | -1.-1
		counts                   | 0 0 0
		Ready                    | true
		segs                     | f f f s
		Act                      | true
		segs                     | f f f s`)
	both(t, "P18.1: more than half of all lives", `
		put a41 b80 c60          | 0.0 1.0 2.0
		New                      |
		segs                     | x51/51 x90/90 x70/70 s
		Todo                     |
		At                       | -1.-1
		Act                      | true
		segs                     | x51/51 x90/90 x70/70 s
		counts                   | 0 0 0`)
}

// P18.1: New changes nothing of the index, nor of the arena but the seal, however often it is called.
func TestNewChangesNothing(t *testing.T) {
	for i, fill := range []string{"seal", "put a20", "put a20 b30 c80 d90", "waste a20", "reserve 30"} {
		s, z := made(t, usual), made(t, usual)
		call(s, fill)
		call(z, fill)
		z.Seal()
		want, all := scene(z), s.All()
		for range 40 {
			s.begin()
		}
		is(t, "P18.1: fill "+strconv.Itoa(i)+": behind New", scene(s), want)
		n := 0
		for range all {
			n++
		}
		is(t, "P18.1: a walk from before", n, s.Len())
	}
}

// P18.1: over an arena that From made: a sealed segment of no used bytes is freed at once.
func TestNewOfFrom(t *testing.T) {
	segs := []api.Segment{{State: api.SegSealed}, {State: api.SegOpen, Used: 11, Live: 11}, {State: api.SegSealed}, {State: api.SegSpare}}
	r := packed(body("a1"))
	at := api.Place{Seg: 1}
	a, no := arena.From(usual, segs, [][]byte{nil, r, nil, nil}, []api.Room{{Place: at, Size: len(r)}})
	is(t, "From", no, api.OK)
	s := &store{nil, a, index.New()}
	plays(t, "P18.2: over one of From", s, `
		enter a1=1.0+11          | true
		New                      |
		segs                     | x x11/11 x s
		Todo                     | 0 2 1
		At                       | 0.0
		hold 0                   | OK
		Ready                    | false
		Act                      | false
		Todo                     | 0 2 1
		let 0                    | OK
		Ready                    | true
		Act                      | false
		segs                     | f x11/11 x s
		At                       | 2.0
		Act                      | false
		At                       | 1.0
		Act 2                    | false false
		entries                  | a1=3.0+11/1
		Act 2                    | false true
		counts                   | 1 3 0
		segs                     | f s f o11/11`)
}

// nothing holds every call's answer against what a nil mover's is to be.
func nothing(t *testing.T, what string, m *compact.Mover) {
	t.Helper()
	for range 3 {
		is(t, what+": nothing is told", told(m), "0 0 0 of [] at -1.-1 true")
		is(t, what+": Act", m.Act(), true)
	}
}

// P18.4: every call on a nil Mover; P0.1: a zero one is as a nil one.
func TestNil(t *testing.T) {
	nothing(t, "P18.4: nil", nil)
	nothing(t, "P0.1: zero", &compact.Mover{})
}

// P0.1: movers over other parts know nothing of one another; a mover that is copied by assignment goes on apart, over the same parts.
func TestApart(t *testing.T) {
	fill := []string{"put a10 b10", "waste c10", "put d90 e10 f10", "sweep e10", "New"}
	s, z := made(t, usual), made(t, usual)
	for _, line := range fill {
		call(s, line)
		call(z, line)
	}
	want := scene(z) + told(z)
	s.Act()
	other := *s.Mover
	is(t, "P0.1: the copy", told(&other), told(s))
	row := told(&other)
	for !s.Act() {
	}
	is(t, "P0.1: the copy behind the other's acts", told(&other), row)
	is(t, "P0.1: and it is not done", other.Act(), false)
	is(t, "P0.1: a mover over other parts", scene(z)+told(z), want)
}
