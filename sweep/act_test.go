package sweep_test

import (
	"strconv"
	"testing"

	"gleaner/api"
	"gleaner/index"
	"gleaner/sweep"
)

// The chapter's examples.
func TestChapter(t *testing.T) {
	three := `
		put a=5/0 b=4/1 c=5/2    | true true true`
	both(t, "P17.2: the first example", three+`
		Act 4                    | false false false true
		Removed                  | 1
		keys                     | a=5/0 c=5/2`)
	both(t, "P17.2: the second example", three+`
		Act                      | false
		put 0=4/3                | true
		Act 3                    | false false true
		Removed                  | 1
		keys                     | 0=4/3 a=5/0 c=5/2`)
	both(t, "P17.2: the third example", three+`
		Act                      | false
		mark 5 b                 | true
		Act 3                    | false false true
		Removed                  | 0
		keys                     | a=5/0 b=5/1 c=5/2`)
	nothing(t, "P17.3: the last example", sweep.New(nil, index.New(), 5))
}

// P17.2: over an index of no entry, of one, of several, put in another order than theirs.
func TestActEntries(t *testing.T) {
	both(t, "P17.2: none", `
		Act 3                    | true true true
		Removed                  | 0
		keys                     |
		gone                     | []`)
	both(t, "P17.2: one that is marked", `
		put m=5/7                | true
		Act 3                    | false true true
		keys                     | m=5/7
		gone                     | []
		Removed                  | 0`)
	both(t, "P17.2: one that is not", `
		put m=4/7                | true
		Act 3                    | false true true
		keys                     |
		gone                     | [7]
		Removed                  | 1`)
	both(t, "P17.2: several", `
		put q=4/0 b=4/1 z=5/2    | true true true
		put a=5/3 m=4/4 c=5/5    | true true true
		Act                      | false
		keys                     | a=5/3 b=4/1 c=5/5 m=4/4 q=4/0 z=5/2
		Act                      | false
		keys                     | a=5/3 c=5/5 m=4/4 q=4/0 z=5/2
		gone                     | [1]
		Act 2                    | false false
		keys                     | a=5/3 c=5/5 q=4/0 z=5/2
		gone                     | [1 4]
		Act                      | false
		keys                     | a=5/3 c=5/5 z=5/2
		gone                     | [0 1 4]
		Act 2                    | false true
		keys                     | a=5/3 c=5/5 z=5/2`)
}

// P17.2: the least and the greatest key of all, and keys that are alike but for the last byte.
func TestActKeys(t *testing.T) {
	both(t, "P17.2: the ends, unmarked", `
		put ~=4/0 0=4/1          | true true
		Act                      | false
		keys                     | ~=4/0
		Act 2                    | false true
		keys                     |
		gone                     | [0 1]
		put ~=4/2 0=4/3          | true true
		Act 2                    | true true
		keys                     | 0=4/3 ~=4/2`)
	both(t, "P17.2: the ends, marked", `
		put ~=5/0 0=5/1          | true true
		Act 4                    | false false true true
		keys                     | 0=5/1 ~=5/0
		Removed                  | 0`)
	both(t, "P17.2: the zero key alone", `
		put 0=4/1                | true
		Act 2                    | false true
		keys                     |
		put 0=4/2                | true
		Act                      | true
		keys                     | 0=4/2`)
	both(t, "P17.2: alike but for the last byte", `
		put ab=4/0 a=4/1 aa=5/2  | true true true
		put ac=4/3 b=4/4         | true true
		Act 2                    | false false
		keys                     | aa=5/2 ab=4/0 ac=4/3 b=4/4
		Act                      | false
		keys                     | aa=5/2 ac=4/3 b=4/4
		Act 3                    | false false true
		keys                     | aa=5/2`)
}

// P17.2: a Mark that is the epoch, and others, at both ends of what an epoch may be.
func TestActMarks(t *testing.T) {
	marks := `
		put a=0/0 b=1/1 c=4/2 d=5/3 e=6/4 f=261/5 g=65541/6 h=4294967294/7 i=greatest/8 | true true true true true true true true true`
	both(t, "P17.2: the epoch 5", marks+`
		Act 10                   | false false false false false false false false false true
		keys                     | d=5/3
		Removed                  | 8`)
	both(t, "P17.2: the zero epoch", marks+`
		New 0                    |
		Act 10                   | false false false false false false false false false true
		keys                     | a=0/0
		gone                     | [1 2 3 4 5 6 7 8]`)
	both(t, "P17.2: the greatest epoch", marks+`
		New greatest             |
		Act 10                   | false false false false false false false false false true
		keys                     | i=4294967295/8
		gone                     | [0 1 2 3 4 5 6 7]`)
	both(t, "P17.2: an epoch that no entry has", marks+`
		New 7                    |
		Act 10                   | false false false false false false false false false true
		keys                     |
		gone                     | [0 1 2 3 4 5 6 7 8]`)
}

// P17.2: an entry whose record the arena does not have for live is taken out all the same, and nothing else becomes dead.
func TestActNoRecord(t *testing.T) {
	both(t, "P17.2: dead ahead of it", `
		dead 0                   | true
		put a=4/0 b=4/1          | true true
		Act 3                    | false false true
		keys                     |
		gone                     | [0 1]
		Removed                  | 2`)
	both(t, "P17.2: another size, another place", `
		put a=4/0+ b=4/2> c=4/4  | true true true
		Act 4                    | false false false true
		keys                     |
		gone                     | [4]
		Removed                  | 3`)
	both(t, "P17.2: places of no room", `
		put a=4/none b=4/below c=4/far d=4/least e=4/6 | true true true true true
		Act 6                    | false false false false false true
		keys                     |
		gone                     | [6]
		Removed                  | 5`)
	both(t, "P17.2: marked ones", `
		put a=5/none b=5/below c=5/far d=5/least e=5/6> | true true true true true
		Act 6                    | false false false false false true
		keys                     | a=5/none b=5/below c=5/far d=5/least e=5/6>
		gone                     | []`)
	both(t, "P17.2: two entries of one record", `
		put a=4/0 b=4/0 c=5/0    | true true true
		Act 4                    | false false false true
		keys                     | c=5/0
		gone                     | [0]
		Removed                  | 2`)
}

// P17.2: a record that is pending is not live: it stays pending.
func TestActPending(t *testing.T) {
	s := made(t)
	call(s, "put a=4/80 b=4/99 c=4/0")
	for s.Act() != true {
	}
	is(t, "P17.2: the entries", listed(s.entries()), "")
	is(t, "P17.2: Removed", s.Removed(), 3)
	is(t, "P17.2: the pending ones", len(s.a.Pending()), rooms-waiting)
	is(t, "P17.2: one is settled behind it", s.a.Settle(room(80).Place, room(80).Size, true), api.OK)
	is(t, "P17.2: and is live", s.dead(room(80)), api.OK)
}

// P17.2: Act again and again behind the first true, and once more behind a Put of a key above the one that was looked at last.
func TestActBehindTrue(t *testing.T) {
	both(t, "P17.2: behind true", `
		put b=4/0 c=5/1          | true true
		Act 6                    | false false true true true true
		put a=4/2                | true
		Act 2                    | true true
		put c=4/3                | false
		mark 4 c                 | true
		Act                      | true
		put d=4/4                | true
		Act 3                    | false true true
		put ca=5/5               | true
		Act                      | true
		put da=5/6 e=4/7         | true true
		Act 4                    | false false true true
		keys                     | a=4/2 c=4/1 ca=5/5 da=5/6
		Removed                  | 3
		gone                     | [0 4 7]`)
	both(t, "P17.2: true at first", `
		Act 2                    | true true
		put 0=4/0                | true
		Act 2                    | false true
		keys                     |`)
}

// P17.2: where the answer is true nothing changes; where an entry is marked, neither.
func TestActChangesNothing(t *testing.T) {
	s := made(t)
	call(s, "put 0=5/0 a=5/1 b=5/none ~=5/far")
	call(s, "dead 1 9")
	want := s.scene()
	for i := range 10 {
		is(t, "P17.2: act "+strconv.Itoa(i), s.Act(), i >= 4)
		is(t, "P17.2: behind act "+strconv.Itoa(i), s.scene(), want)
	}
	is(t, "P17.2: Removed", s.Removed(), 0)
}

// P17.2: of one that is taken out nothing changes but its entry and its record: no other entry, no byte, no other room, nobody's hold.
func TestActChangesThat(t *testing.T) {
	s, z := made(t), made(t)
	for _, w := range []*store{s, z} {
		call(w, "put a=5/1 b=4/22 c=4/23 d=5/24")
		w.a.Hold(1)
	}
	for _, step := range []string{"", "b 22", "c 23", ""} {
		is(t, "P17.2: Act", s.Act(), false)
		if key, n, ok := split(step); ok {
			z.x.Del(key)
			z.a.Dead(room(n).Place, room(n).Size)
		}
		is(t, "P17.2: behind it", s.scene(), z.scene())
	}
	is(t, "P17.2: the last", s.Act(), true)
	is(t, "P17.2: behind the last", s.scene(), z.scene())
}

// P17.2: a segment of which all records are dead stays as it is: nothing is freed.
func TestActFreesNothing(t *testing.T) {
	s, z := made(t), made(t)
	for n := range 20 {
		k, r := numbered(n), room(n)
		s.x.Put(k, api.Entry{Place: r.Place, Size: r.Size, Mark: 4})
		z.dead(r)
	}
	for s.Act() != true {
	}
	is(t, "P17.2: Removed", s.Removed(), 20)
	is(t, "P17.2: the segment", s.a.Segments()[0], api.Segment{State: api.SegSealed, Used: 200})
	is(t, "P17.2: all of it", s.scene(), z.scene())
}

// split is a step's key and room.
func split(step string) (api.Key, int, bool) {
	if step == "" {
		return api.Key{}, 0, false
	}
	return keyed(step[:1]), number(step[2:]), true
}

// P17.3: Removed ahead of the first act, behind each act, and behind the last.
func TestRemoved(t *testing.T) {
	both(t, "P17.3", `
		put a=5/0 b=4/1 c=4/2 d=5/3 e=4/none f=4/1 | true true true true true true
		Removed                  | 0
		Act                      | false
		Removed                  | 0
		Act                      | false
		Removed                  | 1
		Removed                  | 1
		Act                      | false
		Removed                  | 2
		Act                      | false
		Removed                  | 2
		del e                    | true
		Removed                  | 2
		put e=4/none             | true
		Act                      | false
		Removed                  | 3
		Act                      | false
		Removed                  | 4
		Act 2                    | true true
		Removed                  | 4
		put 0=4/4 g=4/5          | true true
		Removed                  | 4
		Act 2                    | false true
		Removed                  | 5`)
}

// P0.1: a sweeper that is copied by assignment goes on apart, over the same parts.
func TestCopy(t *testing.T) {
	s := made(t)
	call(s, "put a=4/0 b=4/1 c=5/2 d=4/3")
	s.Act()
	other := *s.Sweeper
	s.Act()
	is(t, "P0.1: the copy", other.Act(), false)
	is(t, "P0.1: the copy has not looked at b: there is none", other.Removed(), 1)
	other.Act()
	is(t, "P0.1: the copy took d out", other.Removed(), 2)
	is(t, "P0.1: the first one", s.Removed(), 2)
	is(t, "P0.1: the first one looks at c", s.Act(), false)
	is(t, "P0.1: and has no other", s.Act(), true)
	is(t, "P0.1: what is left", listed(s.entries()), "c=5/2")
}
