package cycle_test

import "testing"

// P19.6: a piece of marking at the list's end is an act; the list that is empty is one, and behind it the phase is Sweep.
func TestTrace(t *testing.T) {
	both(t, "P19.6: the kids, one at a time", `
		old a b                | 0.0 0.20
		old t(a,b,a)           | 0.40
		root r t               | OK
		Begin                  | OK
		Act 18                 | 17 Scan, 1 Trace
		Grey                   | [t:0]
		Act                    | 1 Trace
		Grey                   | [t:1 a:0]
		Act                    | 1 Trace
		Grey                   | [t:1]
		entries                | a=0.0/1 b=0.20/0 t=0.40/1
		Act                    | 1 Trace
		Grey                   | [t:2 b:0]
		Act                    | 1 Trace
		Grey                   | [t:2]
		Act                    | 1 Trace
		Grey                   | [t:3]
		Act                    | 1 Trace
		Grey                   | []
		Ready                  | true
		Act                    | 1 Sweep
		entries                | a=0.0/1 b=0.20/1 t=0.40/1`)
	both(t, "P19.6: at the end, not at the beginning", `
		old a b c              | 0.0 0.20 0.40
		name m(a)              |
		old m n(b) o(c)        | 0.60 0.106 0.152
		Begin                  | OK
		Touch m n o            |
		Act 17                 | 16 Scan, 1 Trace
		Act                    | 1 Trace
		Grey                   | [m:0 n:0 o:1 c:0]
		Act 2                  | 2 Trace
		Grey                   | [m:0 n:0]
		Act                    | 1 Trace
		Grey                   | [m:0 n:1 b:0]
		Touch a                |
		Grey                   | [m:0 n:1 b:0 a:0]
		Act 3                  | 3 Trace
		Grey                   | [m:0]
		Act                    | 1 Trace
		Grey                   | [m:1]
		Act 2                  | 1 Trace, 1 Sweep`)
	both(t, "P19.6: the empty list, and what is touched ahead of that act", `
		old a                  | 0.0
		Begin                  | OK
		Act 17                 | 16 Scan, 1 Trace
		Grey                   | []
		Touch a                |
		Act                    | 1 Trace
		Grey                   | []
		Act                    | 1 Sweep
		Grey                   | []`)
	both(t, "P19.6: snapshots and trees lead on", `
		old a b c              | 0.0 0.20 0.40
		name t[a,b]            |
		name u[c]              |
		name p{u}              |
		old t p s{t,p}         | 0.60 1.0 1.53
		old u                  | 1.138
		root r s               | OK
		Begin                  | OK
		Act 18                 | 17 Scan, 1 Trace
		Act                    | 1 Trace
		Grey                   | [s:1 t:0]
		Act                    | 1 Trace
		Grey                   | [s:1 t:1 a:0]
		Act                    | 1 Trace
		Act                    | 1 Trace
		Grey                   | [s:1 t:2 b:0]
		Act 3                  | 3 Trace
		Grey                   | [s:2 p:0]
		Act 2                  | 2 Trace
		Grey                   | [s:2 p:1 u:1 c:0]
		Act 5                  | 4 Trace, 1 Sweep
		entries                | a=0.0/1 b=0.20/1 c=0.40/1 p=1.0/1 s=1.53/1 t=0.60/1 u=1.138/1`)
}

// P19.6: a piece that answers an error is a piece all the same: Act is false, OK, and the key is taken off.
func TestTraceErrors(t *testing.T) {
	both(t, "P19.6: a key that the index has not", `
		old a b                | 0.0 0.20
		Begin                  | OK
		Touch a b              |
		del b                  | true
		Act 17                 | 16 Scan, 1 Trace
		Grey                   | [a:0 b:0]
		Act                    | 1 Trace
		Grey                   | [a:0]
		del a                  | true
		Act                    | 1 Trace
		Grey                   | []
		Act                    | 1 Sweep`)
	both(t, "P19.6: records that are wrong", `
		old a!15 b?            | 0.0 0.20
		old m(c,d)             | 0.40
		old c                  | 0.119
		enter d=3.0+20         | true
		Begin                  | OK
		Touch m a b            |
		Act 17                 | 16 Scan, 1 Trace
		Act                    | 1 Trace
		Grey                   | [m:0 a:0]
		Act                    | 1 Trace
		Grey                   | [m:0]
		Act 3                  | 3 Trace
		Grey                   | [m:2 d:0]
		Act                    | 1 Trace
		Grey                   | [m:2]
		Act 2                  | 1 Trace, 1 Sweep
		entries                | a=0.0/1 b=0.20/1 c=0.119/1 d=3.0/1 m=0.40/1`)
	both(t, "P19.6: the index loses a key half of whose kids were touched", `
		old a b                | 0.0 0.20
		old m(a,b)             | 0.40
		Begin                  | OK
		Touch m                |
		Act 18                 | 16 Scan, 2 Trace
		Grey                   | [m:1 a:0]
		del m                  | true
		Act 2                  | 2 Trace
		Grey                   | []
		entries                | a=0.0/1 b=0.20/0
		Act                    | 1 Sweep`)
	both(t, "P19.6: a kid that is gone is gone by", `
		old b                  | 0.0
		old m(a,b)             | 0.20
		Begin                  | OK
		Touch m                |
		Act 18                 | 16 Scan, 2 Trace
		Grey                   | [m:1]
		Act                    | 1 Trace
		Grey                   | [m:2 b:0]`)
}

// P19.7: Help in each phase, over an empty list and one that is not.
func TestHelp(t *testing.T) {
	both(t, "P19.7: in each phase", `
		old a b c              | 0.0 0.20 0.40
		Help                   | false-OK
		Begin                  | OK
		Help                   | false-OK
		Touch a b c            |
		Help 2                 | false-OK false-OK
		Grey                   | [a:0 b:0 c:0]
		Act 17                 | 16 Scan, 1 Trace
		Help                   | true-OK
		Grey                   | [b:0 c:0]
		Help 3                 | true-OK true-OK false-OK
		Phase                  | Trace
		Touch a                |
		Help                   | false-OK
		Act                    | 1 Sweep
		Touch a                |
		Help                   | false-OK
		Act 3                  | 3 Sweep
		Help                   | false-OK
		Act                    | 1 Move
		Help                   | false-OK
		Act 8                  | 7 Move, 1 Rest true
		Help                   | false-OK`)
	both(t, "P19.7: at the beginning, while Act takes the end", `
		old a b c              | 0.0 0.20 0.40
		name m(a)              |
		old m n(b) o(c)        | 0.60 0.106 0.152
		Begin                  | OK
		Touch m n o            |
		Act 17                 | 16 Scan, 1 Trace
		Help                   | true-OK
		Grey                   | [m:1 n:0 o:0 a:0]
		Help                   | true-OK
		Grey                   | [n:0 o:0 a:0]
		Act                    | 1 Trace
		Grey                   | [n:0 o:0]
		Help                   | true-OK
		Grey                   | [n:1 o:0 b:0]
		Act                    | 1 Trace
		Grey                   | [n:1 o:0]
		Act                    | 1 Trace
		Grey                   | [n:1 o:1 c:0]
		Help                   | true-OK
		Grey                   | [o:1 c:0]
		Help                   | true-OK
		Grey                   | [c:0]
		Help 2                 | true-OK false-OK
		Phase                  | Trace
		Act                    | 1 Sweep
		entries                | a=0.0/1 b=0.20/1 c=0.40/1 m=0.60/1 n=0.106/1 o=0.152/1`)
	both(t, "P19.7: the error of the piece", `
		old a!4 b? c           | 0.0 0.20 0.40
		Begin                  | OK
		Touch a b c            |
		Born q                 |
		del c                  | true
		Act 17                 | 16 Scan, 1 Trace
		Grey                   | [a:0 b:0 c:0 q:0]
		Help                   | true-ErrBroken
		Grey                   | [b:0 c:0 q:0]
		Help 2                 | true-ErrBroken true-ErrGone
		Grey                   | [q:0]
		Help 2                 | true-ErrGone false-OK
		Act                    | 1 Sweep`)
	both(t, "P19.7: one key is both ends", `
		old a b                | 0.0 0.20
		old m(a,b)             | 0.40
		Begin                  | OK
		Touch m                |
		Act 17                 | 16 Scan, 1 Trace
		Help                   | true-OK
		Grey                   | [m:1 a:0]
		Help                   | true-OK
		Grey                   | [m:2 a:0 b:0]
		Help                   | true-OK
		Grey                   | [a:0 b:0]`)
}
