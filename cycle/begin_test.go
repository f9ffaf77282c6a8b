package cycle_test

import (
	"testing"

	"gleaner/api"
)

// P19.4: Begin in each phase: at rest it begins, else nothing changes.
func TestBegin(t *testing.T) {
	w := made(t, usual, 41)
	for _, line := range []string{"put a b c", "sweep b", "root r a", "open 5", "pin 5 c"} {
		call(w, line)
	}
	is(t, "P19.4: at rest", w.c.Begin(), api.OK)
	is(t, "P19.4: what it tells then", told(w.c), "Scan 42 true []")
	met := map[api.Phase]int{}
	for n := 0; w.c.Phase() != api.Rest; n++ {
		want := scene(w)
		is(t, "P19.4: in "+phase(w.c.Phase()), w.c.Begin(), api.ErrState)
		is(t, "P19.4: nothing has changed", scene(w), want)
		met[w.c.Phase()]++
		w.c.Act()
		if n > 100 {
			t.Fatal("no end")
		}
	}
	is(t, "P19.4: phases", len(met), 4)
	is(t, "P19.4: behind it", told(w.c), "Rest 42 false []")
	is(t, "P19.4: at rest again", w.c.Begin(), api.OK)
	is(t, "P19.4: what it tells then", told(w.c), "Scan 43 true []")
}

// P19.4: at MaxEpoch and one below it.
func TestBeginLast(t *testing.T) {
	both(t, "P19.4: one below", `
		old a                  | 0.0
		New 4294967294         |
		root r a               | OK
		Begin                  | OK
		Epoch                  | 4294967295
		Begin                  | ErrState
		Act 26                 | 17 Scan, 2 Trace, 2 Sweep, 4 Move, 1 Rest true
		entries                | a=4.0/4294967295
		Begin                  | ErrEpoch
		Phase                  | Rest
		Epoch                  | 4294967295
		Act                    | 1 Rest ErrState
		Begin                  | ErrEpoch`)
	w := made(t, usual, api.MaxEpoch)
	for _, line := range []string{"put a", "root r a", "open 2", "pin 2 a", "hold 0"} {
		call(w, line)
	}
	want := scene(w)
	for range 3 {
		is(t, "P19.4: at MaxEpoch", w.c.Begin(), api.ErrEpoch)
		is(t, "P19.4: nothing has changed", scene(w), want)
	}
}

// P19.4: a second collection scans the roots and the sessions from their beginning on.
func TestBeginAgain(t *testing.T) {
	both(t, "P19.4: twice", `
		old a b c d            | 0.0 0.20 0.40 0.60
		root n a               | OK
		root x b               | OK
		open 0                 | OK
		open 15                | OK
		pin 0 c                | OK
		pin 15 d               | OK
		Begin                  | OK
		Act 4                  | 4 Scan
		Grey                   | [a:0 b:0 c:0]
		Act 17                 | 16 Scan, 1 Trace
		Grey                   | [a:0 b:0 c:0 d:0]
		Act 10                 | 4 Trace, 5 Sweep, 1 Move
		Act 10                 | 9 Move, 1 Rest true
		entries                | a=4.0/1 b=4.20/1 c=4.40/1 d=4.60/1
		Begin                  | OK
		Act                    | 1 Scan
		Grey                   | [a:0]
		entries                | a=4.0/2 b=4.20/1 c=4.40/1 d=4.60/1
		Act 3                  | 3 Scan
		Grey                   | [a:0 b:0 c:0]
		Act 17                 | 16 Scan, 1 Trace
		Grey                   | [a:0 b:0 c:0 d:0]
		Act 10                 | 4 Trace, 5 Sweep, 1 Move
		segs                   | s f f f x80/80
		Act 10                 | 9 Move, 1 Rest true
		entries                | a=0.0/2 b=0.20/2 c=0.40/2 d=0.60/2
		segs                   | o80/80 f f f s`)
	both(t, "P19.4: a root and a pin ahead of all that the first one scanned", `
		old b c d              | 0.0 0.20 0.40
		root x d               | OK
		open 3                 | OK
		pin 3 c                | OK
		Begin                  | OK
		Act 28                 | 18 Scan, 3 Trace, 4 Sweep, 3 Move
		Act 5                  | 4 Move, 1 Rest true
		entries                | c=4.0/1 d=4.20/1
		old a b                | 4.40 4.60
		root a a               | OK
		pin 3 b                | OK
		Begin                  | OK
		Act                    | 1 Scan
		Grey                   | [a:0]
		Act 2                  | 2 Scan
		Grey                   | [a:0 d:0]
		Act 4                  | 4 Scan
		Grey                   | [a:0 d:0 b:0]
		Act                    | 1 Scan
		Grey                   | [a:0 d:0 b:0 c:0]`)
}
