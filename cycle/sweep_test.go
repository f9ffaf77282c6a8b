package cycle_test

import "testing"

// P19.6: the entries by key, one an act; what is not marked is taken out, and its record is dead.
func TestSweep(t *testing.T) {
	both(t, "P19.6: the sweep", `
		old d b a c            | 0.0 0.20 0.40 0.60
		root r c               | OK
		root s a               | OK
		Begin                  | OK
		Act 22                 | 18 Scan, 3 Trace, 1 Sweep
		entries                | a=0.40/1 b=0.20/0 c=0.60/1 d=0.0/0
		Act                    | 1 Sweep
		entries                | a=0.40/1 b=0.20/0 c=0.60/1 d=0.0/0
		segs                   | o80/80 f f f s
		Act                    | 1 Sweep
		entries                | a=0.40/1 c=0.60/1 d=0.0/0
		segs                   | o80/60 f f f s
		Act                    | 1 Sweep
		entries                | a=0.40/1 c=0.60/1 d=0.0/0
		Act                    | 1 Sweep
		entries                | a=0.40/1 c=0.60/1
		segs                   | o80/40 f f f s
		Ready                  | true
		Act                    | 1 Move
		entries                | a=0.40/1 c=0.60/1
		segs                   | x80/40 f f f s`)
	both(t, "P19.6: beside others: below the last one looked at, above it, taken out, marked", `
		old c e g i k          | 0.0 0.20 0.40 0.60 0.80
		Begin                  | OK
		Act 18                 | 16 Scan, 1 Trace, 1 Sweep
		Act                    | 1 Sweep
		entries                | e=0.20/0 g=0.40/0 i=0.60/0 k=0.80/0
		old a b                | 0.100 0.120
		put d                  | 0.140
		old f                  | 0.160
		Act                    | 1 Sweep
		entries                | a=0.100/0 b=0.120/0 d=0.140/1 e=0.20/0 f=0.160/0 g=0.40/0 i=0.60/0 k=0.80/0
		Act                    | 1 Sweep
		entries                | a=0.100/0 b=0.120/0 d=0.140/1 f=0.160/0 g=0.40/0 i=0.60/0 k=0.80/0
		sweep f                | OK
		Touch i                |
		Act                    | 1 Sweep
		entries                | a=0.100/0 b=0.120/0 d=0.140/1 i=0.60/1 k=0.80/0
		mark 0 d               | true
		del k                  | true
		Act                    | 1 Sweep
		Act                    | 1 Move
		entries                | a=0.100/0 b=0.120/0 d=0.140/0 i=0.60/1`)
	both(t, "P19.6: an entry whose record is not live, or lies nowhere", `
		waste a                | 0.0
		enter a=0.0+20         | true
		enter b=7.3+20         | true
		old c                  | 0.20
		Begin                  | OK
		Act 18                 | 16 Scan, 1 Trace, 1 Sweep
		Act 3                  | 3 Sweep
		entries                |
		segs                   | o40/0 f f f s
		Act                    | 1 Move`)
	both(t, "P19.6: an index without entries", `
		Begin                  | OK
		Act 18                 | 16 Scan, 1 Trace, 1 Sweep
		Act                    | 1 Move`)
	both(t, "P19.6: an entry is put ahead of the none", `
		Begin                  | OK
		Act 18                 | 16 Scan, 1 Trace, 1 Sweep
		old a                  | 0.0
		put b                  | 0.20
		Act 3                  | 2 Sweep, 1 Move
		entries                | b=0.20/1`)
	both(t, "P19.6: each collection sweeps with its own epoch, from the least key on", `
		old a b                | 0.0 0.20
		root r a               | OK
		root s b               | OK
		Begin                  | OK
		Act 50                 | 18 Scan, 3 Trace, 3 Sweep, 6 Move, 1 Rest true, 19 Rest ErrState
		entries                | a=4.0/1 b=4.20/1
		drop r                 | OK
		Begin                  | OK
		Act 50                 | 17 Scan, 2 Trace, 3 Sweep, 5 Move, 1 Rest true, 22 Rest ErrState
		entries                | b=0.0/2
		drop s                 | OK
		Begin                  | OK
		Act 50                 | 16 Scan, 1 Trace, 2 Sweep, 3 Move, 1 Rest true, 27 Rest ErrState
		entries                |
		segs                   | f f f f s`)
}

// P19.6: in the act of the sweep's none the open segment is sealed, and the segments to be moved out of are fixed.
func TestSweepEnd(t *testing.T) {
	both(t, "P19.6: the seal", `
		put a120               | 0.0
		root r a               | OK
		Begin                  | OK
		Act 21                 | 17 Scan, 2 Trace, 2 Sweep
		segs                   | o120/120 f f f s
		Act                    | 1 Move
		segs                   | x120/120 f f f s
		put b                  | 1.0
		Act                    | 1 Rest true
		segs                   | x120/120 o20/20 f f s`)
	both(t, "P19.6: just half and one byte more; by live bytes, then by number; nothing pending", `
		old a99 A              | 0.0 0.99
		old b100 B             | 1.0 1.100
		old c101 C             | 2.0 2.101
		seal                   |
		old d100 D             | 3.0 3.100
		reserve 10             | 3.120
		root a a               | OK
		root b b               | OK
		root c c               | OK
		root d d               | OK
		Begin                  | OK
		Act 34                 | 20 Scan, 5 Trace, 9 Sweep
		segs                   | x119/99 x120/100 x121/101 o130/100p s
		Act                    | 1 Move
		segs                   | x119/99 x120/100 x121/101 x130/100p s
		lost 3.120+10          | OK
		sweep c                | OK
		segs                   | x119/99 x120/100 x121/0 x130/100 s
		Act 4                  | 4 Move
		segs                   | s x120/100 x121/0 x130/100 d99/99
		Act 4                  | 4 Move
		segs                   | s f x121/0 x130/100 d199/199
		Act                    | 1 Rest true
		segs                   | s f x121/0 x130/100 o199/199`)
	both(t, "P19.6: of equal ones by number, whatever the order in which they came to be", `
		old e F170             | 0.0 0.20
		seal                   |
		old c D150             | 1.0 1.20
		seal                   |
		old a B150             | 2.0 2.20
		root a a               | OK
		root c c               | OK
		root e e               | OK
		Begin                  | OK
		Act 31                 | 19 Scan, 4 Trace, 7 Sweep, 1 Move
		segs                   | x190/20 x170/20 x170/20 f s
		Act 2                  | 2 Move
		entries                | a=2.0/1 c=1.0/1 e=4.0/1
		Act 4                  | 4 Move
		entries                | a=2.0/1 c=4.20/1 e=4.0/1
		segs                   | s x170/0 x170/20 f d40/40
		Act 7                  | 6 Move, 1 Rest true
		segs                   | s f f f o60/60
		entries                | a=4.40/1 c=4.20/1 e=4.0/1`)
}
