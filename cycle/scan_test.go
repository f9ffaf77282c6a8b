package cycle_test

import (
	"strconv"
	"testing"

	"gleaner/api"
)

// P19.6: the roots by name, one an act: one is put in ahead of the last one scanned, one behind it, one is dropped meanwhile, the last one itself too.
func TestScanRoots(t *testing.T) {
	both(t, "P19.6: roots", `
		old a b c d e          | 0.0 0.20 0.40 0.60 0.80
		root b b               | OK
		root d d               | OK
		Begin                  | OK
		Act                    | 1 Scan
		Grey                   | [b:0]
		root a a               | OK
		root c c               | OK
		Act                    | 1 Scan
		Grey                   | [b:0 c:0]
		drop d                 | OK
		root e e               | OK
		Act                    | 1 Scan
		Grey                   | [b:0 c:0 e:0]
		drop e                 | OK
		root dd d              | OK
		root f q               | OK
		Act                    | 1 Scan
		Grey                   | [b:0 c:0 e:0]
		root ee b              | OK
		Act                    | 1 Scan
		root g a               | OK
		Act 16                 | 15 Scan, 1 Trace
		Grey                   | [b:0 c:0 e:0]
		entries                | a=0.0/0 b=0.20/1 c=0.40/1 d=0.60/0 e=0.80/1
		roots                  | a=a b=b c=c dd=d ee=b f=q g=a`)
	both(t, "P19.6: by name, not by key nor as they came; of one key each is an act", `
		old a b                | 0.0 0.20
		root z a               | OK
		root 0 b               | OK
		root a/b b             | OK
		root a b               | OK
		root _ b               | OK
		root a.c b             | OK
		Begin                  | OK
		Act                    | 1 Scan
		Grey                   | [b:0]
		Act 4                  | 4 Scan
		Grey                   | [b:0]
		Act                    | 1 Scan
		Grey                   | [b:0 a:0]
		Act 17                 | 16 Scan, 1 Trace`)
	both(t, "P19.6: a root that was scanned stands for another key", `
		old a b                | 0.0 0.20
		root m a               | OK
		root n a               | OK
		Begin                  | OK
		Act                    | 1 Scan
		root m b               | OK
		root n b               | OK
		Grey                   | [a:0]
		Act                    | 1 Scan
		Grey                   | [a:0 b:0]
		Act 17                 | 16 Scan, 1 Trace`)
	both(t, "P19.6: all roots are dropped meanwhile", `
		old a b                | 0.0 0.20
		root m a               | OK
		root n b               | OK
		Begin                  | OK
		Act                    | 1 Scan
		drop m n               | OK OK
		Act                    | 1 Scan
		Grey                   | [a:0]
		root z b               | OK
		Act 16                 | 15 Scan, 1 Trace
		Grey                   | [a:0]`)
}

// P19.6: 64 roots, of the longest names.
func TestScanManyRoots(t *testing.T) {
	w := made(t, usual, 0)
	for i := range api.MaxRoots {
		name := []byte("01234567890123456789012345678900")
		name[30], name[31] = byte('0'+i/10), byte('0'+i%10)
		is(t, "a root", w.r.Set(string(name), w.keyed(string(rune('A'+i%26)))), api.OK)
	}
	for i := range 26 {
		w.x.Put(w.keyed(string(rune('A'+i))), api.Entry{Size: 1})
	}
	w.c.Begin()
	is(t, "P19.6: 64 roots", call(w, "Act 64"), "64 Scan")
	is(t, "P19.6: their keys", call(w, "Grey"), "[A:0 B:0 C:0 D:0 E:0 F:0 G:0 H:0 I:0 J:0 K:0 L:0 M:0 N:0 O:0 P:0 Q:0 R:0 S:0 T:0 U:0 V:0 W:0 X:0 Y:0 Z:0]")
	is(t, "P19.6: behind them", call(w, "Act 17"), "16 Scan, 1 Trace")
}

// P19.6: the sessions by number and their pins by key, one an act: sessions are opened and closed, keys are pinned meanwhile.
func TestScanPins(t *testing.T) {
	both(t, "P19.6: pins", `
		old a b c d e f        | 0.0 0.20 0.40 0.60 0.80 0.100
		old g h                | 0.120 0.140
		open 2 5               | OK OK
		pin 2 d b              | OK OK
		pin 5 a                | OK
		Begin                  | OK
		Act 3                  | 3 Scan
		Grey                   | []
		Act                    | 1 Scan
		Grey                   | [b:0]
		pin 2 a c              | OK OK
		Act                    | 1 Scan
		Grey                   | [b:0 c:0]
		Act 2                  | 2 Scan
		Grey                   | [b:0 c:0 d:0]
		pin 2 e                | OK
		open 1                 | OK
		pin 1 e                | OK
		close 5                | OK
		Act 3                  | 3 Scan
		Grey                   | [b:0 c:0 d:0]
		open 5 7               | OK OK
		pin 5 a                | OK
		pin 7 f                | OK
		Act                    | 1 Scan
		Grey                   | [b:0 c:0 d:0]
		Act                    | 1 Scan
		Grey                   | [b:0 c:0 d:0 f:0]
		close 7                | OK
		open 7                 | OK
		pin 7 a g f            | OK OK OK
		Act                    | 1 Scan
		Grey                   | [b:0 c:0 d:0 f:0 g:0]
		close 7                | OK
		Act                    | 1 Scan
		open 7                 | OK
		pin 7 h                | OK
		Act 8                  | 7 Scan, 1 Trace
		Grey                   | [b:0 c:0 d:0 f:0 g:0]
		pins                   | 1:e 2:abcde 5:a 7:h`)
	both(t, "P19.6: the first session and the last one; what is not in the index, and what is marked, is an act too", `
		old a b c              | 0.0 0.20 0.40
		open 15 0              | OK OK
		pin 0 b q a            | OK OK OK
		pin 15 a c             | OK OK
		root r b               | OK
		Begin                  | OK
		Act 2                  | 2 Scan
		Grey                   | [b:0]
		Act                    | 1 Scan
		Grey                   | [b:0 a:0]
		Act 2                  | 2 Scan
		Grey                   | [b:0 a:0]
		Act 15                 | 15 Scan
		Grey                   | [b:0 a:0]
		Act                    | 1 Scan
		Grey                   | [b:0 a:0]
		Act                    | 1 Scan
		Grey                   | [b:0 a:0 c:0]
		Act                    | 1 Trace
		Grey                   | [b:0 a:0 c:0]`)
	both(t, "P19.6: a session that is open and pins nothing", `
		open 0 1 15            | OK OK OK
		Begin                  | OK
		Act 17                 | 16 Scan, 1 Trace`)
	both(t, "P19.6: a session is opened while its none is next", `
		old a                  | 0.0
		Begin                  | OK
		Act 16                 | 16 Scan
		open 15                | OK
		pin 15 a               | OK
		Act                    | 1 Scan
		Grey                   | [a:0]
		Act                    | 1 Trace`)
	both(t, "P19.6: what a session has scanned says nothing of the next one, nor a root's name of a pin", `
		old a b z              | 0.0 0.20 0.40
		root zzz q             | OK
		open 3 4               | OK OK
		pin 3 z                | OK
		pin 4 a                | OK
		Begin                  | OK
		Act 6                  | 6 Scan
		Grey                   | [z:0]
		Act 2                  | 2 Scan
		Grey                   | [z:0 a:0]`)
}

// P19.6: the zero key is scanned as any other, and once; likewise that of all ones; whether there are roots or not.
func TestScanEnds(t *testing.T) {
	var ones api.Key
	for i := range ones {
		ones[i] = 0xff
	}
	for rooted := range 3 {
		w := made(t, usual, 0)
		for _, k := range []api.Key{{}, ones, {5}} {
			w.x.Put(k, api.Entry{Size: 1})
		}
		for _, s := range []int{0, 8, 15} {
			w.p.Open(s)
			w.p.Pin(s, ones)
			w.p.Pin(s, api.Key{})
		}
		for i := range rooted {
			w.r.Set("r"+strconv.Itoa(i), w.keyed("q"))
		}
		w.c.Begin()
		is(t, "P19.6: the roots, and their none", call(w, "Act "+strconv.Itoa(rooted+1)), strconv.Itoa(rooted+1)+" Scan")
		is(t, "P19.6: the zero key", call(w, "Act"), "1 Scan")
		is(t, "P19.6: it alone is in the list", greyed(w.c.Grey()), "["+word(api.Key{})+":0]")
		is(t, "P19.6: all ones", call(w, "Act"), "1 Scan")
		is(t, "P19.6: both are in the list", greyed(w.c.Grey()), "["+word(api.Key{})+":0 "+word(ones)+":0]")
		is(t, "P19.6: the others", call(w, "Act 20"), "19 Scan, 1 Trace")
		is(t, "P19.6: no more", len(w.c.Grey()), 2)
	}
}

// P19.6: Scan touches as Touch does: what was touched or born meanwhile is not pushed once more; its kids are not looked at.
func TestScanTouches(t *testing.T) {
	both(t, "P19.6: marked already", `
		old a b                | 0.0 0.20
		root r a               | OK
		root s b               | OK
		Begin                  | OK
		Touch a                |
		Act                    | 1 Scan
		Grey                   | [a:0]
		put c                  | 0.40
		root t c               | OK
		Act 2                  | 2 Scan
		Grey                   | [a:0 c:0 b:0]`)
	both(t, "P19.6: with kids, and with a record that is wrong", `
		old a                  | 0.0
		old m(a,q)             | 0.20
		old b!12               | 0.99
		root r m               | OK
		root s b               | OK
		Begin                  | OK
		Act 19                 | 18 Scan, 1 Trace
		Grey                   | [m:0 b:0]
		entries                | a=0.0/0 b=0.99/1 m=0.20/1`)
	both(t, "P19.6: Scan does no piece of marking, however long the list is", `
		old a b                | 0.0 0.20
		Begin                  | OK
		Touch a b              |
		Help 2                 | false-OK false-OK
		Act 17                 | 16 Scan, 1 Trace
		Grey                   | [a:0 b:0]`)
}
