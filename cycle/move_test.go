package cycle_test

import "testing"

// P19.6: the move: a record is written, and in the next act the entry's place is the new one; else it is passed over; then the segment is freed; at the end all is done.
func TestMove(t *testing.T) {
	both(t, "P19.6: piece by piece", `
		put a b c              | 0.0 0.20 0.40
		root r a               | OK
		root s c               | OK
		Begin                  | OK
		Act 26                 | 18 Scan, 3 Trace, 4 Sweep, 1 Move
		segs                   | x60/40 f f f s
		Act                    | 1 Move
		segs                   | x60/40 f f f d20/0p
		entries                | a=0.0/1 c=0.40/1
		Act                    | 1 Move
		segs                   | x60/20 f f f d20/20
		entries                | a=4.0/1 c=0.40/1
		Act                    | 1 Move
		segs                   | x60/20 f f f d20/20
		Act 2                  | 2 Move
		entries                | a=4.0/1 c=4.20/1
		Ready                  | true
		Act                    | 1 Move
		segs                   | s f f f d40/40
		Phase                  | Move
		Ready                  | true
		Act                    | 1 Rest true
		segs                   | s f f f o40/40
		Ready                  | false
		Act                    | 1 Rest ErrState`)
	both(t, "P19.6: with nothing to be moved out of", `
		put a120               | 0.0
		root r a               | OK
		Begin                  | OK
		Act 23                 | 17 Scan, 2 Trace, 2 Sweep, 1 Move, 1 Rest true
		segs                   | x120/120 f f f s`)
	both(t, "P19.6: somebody puts meanwhile: the mover's segment is sealed", `
		put a                  | 0.0
		root r a               | OK
		Begin                  | OK
		Act 23                 | 17 Scan, 2 Trace, 2 Sweep, 2 Move
		put b                  | 1.0
		Act 3                  | 2 Move, 1 Rest true
		segs                   | s o20/20 f f x20/20
		entries                | a=4.0/1 b=1.0/1`)
	both(t, "P19.6: the key is put out between the writing and the turn", `
		put a b                | 0.0 0.20
		root r a               | OK
		root s b               | OK
		Begin                  | OK
		Act 26                 | 18 Scan, 3 Trace, 3 Sweep, 2 Move
		sweep a                | OK
		Act                    | 1 Move
		segs                   | x40/20 f f f d20/0
		Act 4                  | 3 Move, 1 Rest true
		segs                   | s f f f o40/20
		entries                | b=4.20/1`)
	both(t, "P19.6: a segment is given up: bytes that are no record, and one that stays live", `
		old d                  | 0.0
		seal                   |
		old e!3                | 1.0
		lay f                  | 1.20
		seal                   |
		lay g                  | 2.0
		root r d               | OK
		root s e               | OK
		Begin                  | OK
		Act 25                 | 18 Scan, 3 Trace, 3 Sweep, 1 Move
		segs                   | x20/20 x40/40 x20/20 f s
		Act 3                  | 3 Move
		segs                   | s x40/40 x20/20 f d20/20
		Act                    | 1 Move
		Act 2                  | 2 Move
		segs                   | s x40/40 x20/20 f d20/20
		Act                    | 1 Rest true
		segs                   | s x40/40 x20/20 f o20/20`)
}

// P19.5, P19.6: a segment that is held is not freed; while somebody holds it, Act is ErrHeld, and nothing changes.
func TestHeld(t *testing.T) {
	both(t, "P19.5: held by two, and one behind it", `
		put a b                | 0.0 0.20
		seal                   |
		put c                  | 1.0
		root r a               | OK
		Begin                  | OK
		hold 1 0 0             | OK OK OK
		Act 25                 | 17 Scan, 2 Trace, 4 Sweep, 2 Move
		segs                   | x40/20hh x20/0h f f s
		Ready                  | false
		Act 2                  | 2 Move ErrHeld
		let 0                  | OK
		Ready                  | false
		Act                    | 1 Move ErrHeld
		let 1                  | OK
		Ready                  | true
		Act                    | 1 Move
		segs                   | x40/20h f f f s`)
}

// P19.6: what is refused changes nothing, however often: at rest, and while the next segment is held.
func TestRefused(t *testing.T) {
	w := made(t, usual, 3)
	for _, line := range []string{"put a b", "sweep b", "root r a", "open 5", "pin 5 a q"} {
		call(w, line)
	}
	want := scene(w)
	is(t, "P19.6: at rest", call(w, "Act 5"), "5 Rest ErrState")
	is(t, "P19.6: nothing has changed", scene(w), want)
	call(w, "Begin")
	call(w, "hold 0")
	for n := 0; w.c.Ready(); n++ {
		is(t, "P19.6: it need not wait", call(w, "Act") == "1 Move ErrHeld", false)
		if n > 100 {
			t.Fatal("no end")
		}
	}
	want = scene(w)
	is(t, "P19.6: held", call(w, "Act 5"), "5 Move ErrHeld")
	is(t, "P19.6: nothing has changed", scene(w), want)
	call(w, "let 0")
	is(t, "P19.6: let go", call(w, "Act 3"), "1 Move, 1 Rest true, 1 Rest ErrState")
}

// P19.6: what the mover has in hand is the collection's: the next one begins with its own.
func TestMoveAgain(t *testing.T) {
	both(t, "P19.6: two moves", `
		put a b                | 0.0 0.20
		sweep b                | OK
		root r a               | OK
		Begin                  | OK
		Act 50                 | 17 Scan, 2 Trace, 2 Sweep, 5 Move, 1 Rest true, 23 Rest ErrState
		entries                | a=4.0/1
		segs                   | s f f f o20/20
		put c                  | 4.20
		Begin                  | OK
		Act 23                 | 17 Scan, 2 Trace, 3 Sweep, 1 Move
		segs                   | s f f f x40/20
		Act 3                  | 3 Move
		segs                   | d20/20 f f f x40/0
		hold 4                 | OK
		Act                    | 1 Move ErrHeld
		let 4                  | OK
		Act 2                  | 1 Move, 1 Rest true
		segs                   | o20/20 f f f s
		entries                | a=0.0/2`)
}
