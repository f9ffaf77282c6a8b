package cycle_test

import "testing"

// The chapter's examples.
func TestChapter(t *testing.T) {
	both(t, "example 1", `
		Begin                  | OK
		Act 20                 | 16 Scan, 1 Trace, 1 Sweep, 1 Move, 1 Rest true
		Epoch                  | 1
		segs                   | f f f f s`)
	both(t, "example 2", `
		Act                    | 1 Rest ErrState
		Begin                  | OK
		Begin                  | ErrState
		New greatest           |
		Begin                  | ErrEpoch
		Phase                  | Rest
		Epoch                  | 4294967295`)
	both(t, "example 3", `
		put a                  | 0.0
		root r a               | OK
		Begin                  | OK
		Act                    | 1 Scan
		Grey                   | [a:0]
		Act 17                 | 16 Scan, 1 Trace
		Grey                   | [a:0]
		Act                    | 1 Trace
		Grey                   | []
		Act                    | 1 Sweep`)
	both(t, "example 4", `
		New 3                  |
		old a b                | 0.0 0.20
		Touch a                |
		entries                | a=0.0/0 b=0.20/0
		Grey                   | []
		Begin                  | OK
		Touch a                |
		entries                | a=0.0/4 b=0.20/0
		Grey                   | [a:0]
		Act 19                 | 16 Scan, 2 Trace, 1 Sweep
		Touch b                |
		entries                | a=0.0/4 b=0.20/4
		Grey                   | []`)
	both(t, "example 5", `
		put a w                | 0.0 0.20
		sweep w                | OK
		root r a               | OK
		Begin                  | OK
		Act 22                 | 17 Scan, 2 Trace, 2 Sweep, 1 Move
		segs                   | x40/20 f f f s
		Act 3                  | 3 Move
		hold 0                 | OK
		Ready                  | false
		Act 3                  | 3 Move ErrHeld
		segs                   | x40/0h f f f d20/20
		let 0                  | OK
		Ready                  | true
		Act                    | 1 Move
		segs                   | s f f f d20/20
		Act                    | 1 Rest true
		segs                   | s f f f o20/20
		entries                | a=4.0/1`)
}
