package cycle_test

import (
	"testing"

	"gleaner/api"
)

// P19.2: Touch in each of the five phases, of a key that has another mark, of one that is marked, of one that the index has not.
func TestTouch(t *testing.T) {
	both(t, "P19.2", `
		New 3                  |
		old u v                | 0.0 0.20
		mark 3 v               | true
		Touch u v q            |
		entries                | u=0.0/0 v=0.20/3
		Grey                   | []
		Begin                  | OK
		mark 4 v               | true
		Touch u v q            |
		entries                | u=0.0/4 v=0.20/4
		Grey                   | [u:0]
		Touch u u              |
		Grey                   | [u:0]
		Act 17                 | 16 Scan, 1 Trace
		Touch u v q            |
		Grey                   | [u:0]
		mark 3 u               | true
		Touch q v u            |
		entries                | u=0.0/4 v=0.20/4
		Grey                   | [u:0 u:0]
		Act 3                  | 2 Trace, 1 Sweep
		mark 0 u               | true
		Touch u v q            |
		entries                | u=0.0/4 v=0.20/4
		Grey                   | []
		Act 3                  | 2 Sweep, 1 Move
		mark 5 u               | true
		Touch u v q            |
		entries                | u=0.0/4 v=0.20/4
		Grey                   | []
		Act                    | 1 Move
		mark 0 u               | true
		Touch u                |
		Act 5                  | 4 Move, 1 Rest true
		entries                | u=4.0/4 v=4.20/4
		mark 0 u               | true
		Touch u v q            |
		entries                | u=4.0/0 v=4.20/4
		Grey                   | []`)
	both(t, "P19.2: what is touched is pushed at the end, and stays behind a sweep", `
		old a b c d            | 0.0 0.20 0.40 0.60
		Begin                  | OK
		Touch c a              |
		Grey                   | [c:0 a:0]
		Act 17                 | 16 Scan, 1 Trace
		Touch b                |
		Grey                   | [c:0 a:0 b:0]
		Act 4                  | 3 Trace, 1 Sweep
		Act 3                  | 3 Sweep
		entries                | a=0.0/1 b=0.20/1 c=0.40/1 d=0.60/0
		Touch d                |
		Act 2                  | 1 Sweep, 1 Move
		entries                | a=0.0/1 b=0.20/1 c=0.40/1 d=0.60/1`)
	both(t, "P19.2: with the epoch of now, not that of the mark", `
		New 4294967294         |
		old a                  | 0.0
		mark 4294967294 a      | true
		Begin                  | OK
		Touch a                |
		entries                | a=0.0/4294967295
		Grey                   | [a:0]`)
	both(t, "P19.2: a record that is wrong is touched all the same", `
		old a!3 b?             | 0.0 0.20
		Begin                  | OK
		Touch a b              |
		Grey                   | [a:0 b:0]
		entries                | a=0.0/1 b=0.20/1`)
}

// P19.2: the zero key and that of all ones.
func TestTouchEnds(t *testing.T) {
	var ones api.Key
	for i := range ones {
		ones[i] = 0xff
	}
	for _, k := range []api.Key{{}, ones, {31: 1}} {
		w := made(t, usual, 6)
		w.x.Put(k, api.Entry{Size: 5, Mark: 6})
		w.c.Begin()
		w.c.Touch(k)
		e, ok := w.x.Get(k)
		is(t, "P19.2: an entry", ok, true)
		is(t, "P19.2: the entry", e, api.Entry{Size: 5, Mark: 7})
		is(t, "P19.2: the list", len(w.c.Grey()), 1)
		is(t, "P19.2: what is in it", w.c.Grey()[0], api.Grey{Key: k})
	}
}

// P19.3: Born in each of the five phases, of a key that has another mark, of one that is marked, of one that the index has not.
func TestBorn(t *testing.T) {
	both(t, "P19.3", `
		old u v                | 0.0 0.20
		Born u v q             |
		Grey                   | []
		Begin                  | OK
		mark 1 v               | true
		Grey                   | []
		Born u v q u           |
		Grey                   | [u:0 v:0 q:0 u:0]
		entries                | u=0.0/0 v=0.20/1
		Act 17                 | 16 Scan, 1 Trace
		Grey                   | [u:0 v:0 q:0 u:0]
		Born v                 |
		Grey                   | [u:0 v:0 q:0 u:0 v:0]
		entries                | u=0.0/0 v=0.20/1
		Act 6                  | 5 Trace, 1 Sweep
		Born u v q             |
		Grey                   | []
		Act 2                  | 2 Sweep
		entries                | v=0.20/1
		Born u                 |
		Act                    | 1 Move
		Born u v q             |
		Grey                   | []
		entries                | v=0.20/1
		Act 5                  | 4 Move, 1 Rest true
		Born v q               |
		Grey                   | []
		Begin                  | OK
		Grey                   | []`)
	both(t, "P19.3: the kids of what was put while it scans and traces", `
		old a b c              | 0.0 0.20 0.40
		Begin                  | OK
		put m(a)               | 0.60
		Grey                   | [m:0]
		entries                | a=0.0/0 b=0.20/0 c=0.40/0 m=0.60/1
		Act 17                 | 16 Scan, 1 Trace
		Act                    | 1 Trace
		Grey                   | [m:1 a:0]
		put n(b)               | 0.106
		Grey                   | [m:1 a:0 n:0]
		Act 6                  | 5 Trace, 1 Sweep
		put o(c)               | 0.152
		Grey                   | []
		Act 6                  | 6 Sweep
		entries                | a=0.0/1 b=0.20/1 m=0.60/1 n=0.106/1 o=0.152/1
		Act                    | 1 Move`)
}
