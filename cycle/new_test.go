package cycle_test

import (
	"strconv"
	"testing"

	"gleaner/api"
	"gleaner/arena"
	"gleaner/cycle"
	"gleaner/index"
	"gleaner/pins"
	"gleaner/roots"
)

// P19.1: New over the four parts, and with any of them nil; P0.1: a zero part, which no call of its package made, is as a nil one.
func TestNew(t *testing.T) {
	p := newParts(t, usual)
	w := over(p, 0)
	call(w, "put a")
	call(w, "root r a")
	want := scene(w)
	for i, a := range []*arena.Arena{p.a, nil, {}} {
		for j, x := range []*index.Index{p.x, nil, {}} {
			for k, r := range []*roots.Roots{p.r, nil, {}} {
				for l, s := range []*pins.Pins{p.p, nil, {}} {
					what := "P19.1: parts " + strconv.Itoa(i) + strconv.Itoa(j) + strconv.Itoa(k) + strconv.Itoa(l)
					c := cycle.New(a, x, r, s, 5)
					is(t, what+": a collector", c != nil, i+j+k+l == 0)
					if c == nil {
						nothing(t, what, c)
					}
					is(t, what+": nothing has happened", scene(w), want)
				}
			}
		}
	}
}

// P19.1: a new collector is at rest, of the epoch that was asked for, and its work list is empty.
func TestNewTold(t *testing.T) {
	for _, epoch := range []uint32{0, 1, 7, 1 << 31, api.MaxEpoch - 1, api.MaxEpoch} {
		w := made(t, usual, epoch)
		is(t, "P19.1: what it tells", told(w.c), "Rest "+strconv.FormatUint(uint64(epoch), 10)+" false []")
	}
	both(t, "P19.1: over parts that have something", `
		put a                  | 0.0
		root r a               | OK
		open 3                 | OK
		pin 3 a                | OK
		hold 0                 | OK
		New 9                  |
		Phase                  | Rest
		Epoch                  | 9
		Grey                   | []
		Ready                  | false
		segs                   | o20/20h f f f s
		entries                | a=0.0/0`)
}

// P19.1: New takes arenas of all sizes, of From, and full ones; tables of roots of From; it changes nothing of its parts, however often it is called.
func TestNewParts(t *testing.T) {
	for _, c := range []api.Config{{Segs: 3, Size: 64}, {Segs: 64, Size: 65536}, {Segs: 3, Size: 65536}, {Segs: 64, Size: 64}} {
		p := newParts(t, c)
		for at, no := p.a.Reserve(c.Size); no == api.OK; at, no = p.a.Reserve(c.Size) {
			p.a.Settle(at, c.Size, true)
		}
		p.x.Put(api.Key{}, api.Entry{Place: api.Place{Seg: -1, Off: 3}, Size: -7, Mark: 9})
		w := over(p, 1)
		want, all := scene(w), p.x.All()
		for range 40 { // many: what is done and undone might come to be seen
			if cycle.New(p.a, p.x, p.r, p.p, 2) == nil {
				t.Fatal("P19.1: New answers nil")
			}
		}
		is(t, "P19.1: behind New", scene(w), want)
		n := 0
		for range all {
			n++
		}
		is(t, "P19.1: a walk from before", n, 1)
	}
	a, no := arena.From(usual, make([]api.Segment, 5), make([][]byte, 5), nil)
	is(t, "an arena of From", no, api.OK)
	r, no := roots.From([]api.Root{{Name: "a"}, {Name: "b"}})
	is(t, "roots of From", no, api.OK)
	is(t, "P19.1: over parts of From", cycle.New(a, index.New(), r, pins.New(), 0) != nil, true)
}

// P19.1: others use the same four parts meanwhile, and the collector sees what they do.
func TestOthers(t *testing.T) {
	both(t, "P19.1: the index and the arena", `
		Begin                  | OK
		Touch a                |
		Grey                   | []
		old a                  | 0.0
		Touch a                |
		Grey                   | [a:0]
		del a                  | true
		Act 17                 | 16 Scan, 1 Trace
		Help                   | true-ErrGone
		enter a=0.0+20         | true
		Touch a                |
		Help                   | true-OK
		Act                    | 1 Sweep
		mark 0 a               | true
		Act                    | 1 Sweep
		entries                |
		segs                   | o20/0 f f f s
		seal                   |
		old b                  | 1.0
		Act                    | 1 Sweep
		segs                   | x20/0 o20/0 f f s
		Act                    | 1 Move
		Act                    | 1 Move
		hold 0                 | OK
		Ready                  | false
		let 0                  | OK
		Ready                  | true`)
	both(t, "P19.1: the roots and the sessions", `
		old a b                | 0.0 0.20
		Begin                  | OK
		root r a               | OK
		open 0                 | OK
		pin 0 b                | OK
		Act 2                  | 2 Scan
		Grey                   | [a:0]
		Act                    | 1 Scan
		Grey                   | [a:0 b:0]`)
	both(t, "P19.1: another collector over the same parts", `
		old a b                | 0.0 0.20
		root r a               | OK
		Begin                  | OK
		Act 18                 | 17 Scan, 1 Trace
		Grey                   | [a:0]
		New 1                  |
		Phase                  | Rest
		Grey                   | []
		entries                | a=0.0/1 b=0.20/0
		Begin                  | OK
		Epoch                  | 2
		Act                    | 1 Scan
		Grey                   | [a:0]
		entries                | a=0.0/2 b=0.20/0`)
}

// nothing holds every call's answer against what a nil Cycle's is to be.
func nothing(t *testing.T, what string, c *cycle.Cycle) {
	t.Helper()
	for range 3 {
		for _, k := range []api.Key{{}, {1}, {31: 0xff}} {
			c.Touch(k)
			c.Born(k)
		}
		is(t, what+": Begin", c.Begin(), api.ErrNil)
		done, no := c.Act()
		is(t, what+": Act", strconv.FormatBool(done)+" "+code(no), "false ErrNil")
		did, no := c.Help()
		is(t, what+": Help", strconv.FormatBool(did)+" "+code(no), "false ErrNil")
		is(t, what+": what it tells", told(c), "Rest 0 false []")
	}
}

// P19.1: every call on a nil Cycle; P0.1: a zero one is as a nil one.
func TestNil(t *testing.T) {
	nothing(t, "P19.1: nil", nil)
	nothing(t, "P0.1: zero", &cycle.Cycle{})
}

// P0.1: collectors over other parts know nothing of one another.
func TestApart(t *testing.T) {
	fill := []string{"old a b", "old t(a,b)", "root r t", "open 4", "pin 4 a", "Begin", "Act 3"}
	w, z := made(t, usual, 0), made(t, usual, 0)
	for _, line := range fill {
		call(w, line)
		call(z, line)
	}
	want := scene(z)
	for n := 0; w.c.Phase() != api.Rest; n++ {
		w.c.Act()
		w.c.Touch(w.keyed("b"))
		if n < 20 {
			w.c.Born(w.keyed("q"))
		}
		if n > 200 {
			t.Fatal("no end")
		}
	}
	is(t, "P0.1: a collector over other parts", scene(z), want)
}
