package mark_test

import (
	"strconv"
	"testing"

	"gleaner/api"
)

// P16.2: of a key with another Mark, with that Mark already, of one that the index has not.
func TestTouch(t *testing.T) {
	both(t, "P16.2: the chapter's example", `
		blob b c            | true true
		tree t b c b        | true
		Touch 1 t t x       | true false false [t:0]
		marks               | b=0 c=0 t=1`)
	both(t, "P16.2: another epoch", `
		blob a b c          | true true true
		mark 1 a            | true
		mark 2 b            | true
		Touch 2 a b c       | true false true [a:0 c:0]
		marks               | a=2 b=2 c=2
		Touch 2 a b c       | false false false [a:0 c:0]
		Touch 1 b           | true [a:0 c:0 b:0]
		marks               | a=2 b=1 c=2`)
	both(t, "P16.2: the zero epoch", `
		blob a b            | true true
		Touch 0 a b         | false false []
		mark 1 a            | true
		Touch 0 a b         | true false [a:0]
		marks               | a=0 b=0`)
	both(t, "P16.2: the greatest epoch", `
		blob a b            | true true
		mark greatest b     | true
		Touch greatest a b  | true false [a:0]
		marks               | a=4294967295 b=4294967295
		Touch 0 b           | true [a:0 b:0]
		Touch 4294967294 a  | true [a:0 b:0 a:0]
		marks               | a=4294967294 b=0`)
	both(t, "P16.2: epochs that are unlike in one byte", `
		blob a              | true
		mark 257 a          | true
		Touch 1 a           | true [a:0]
		Touch 65537 a       | true [a:0 a:0]
		Touch 16777217 a    | true [a:0 a:0 a:0]
		Touch 16777217 a    | false [a:0 a:0 a:0]`)
}

// P16.2: the key goes onto the top, none of its kids gone through, whatever stands there already.
func TestTouchPushes(t *testing.T) {
	both(t, "P16.2: on top of others", `
		blob a b            | true true
		push x              |
		bump top            |
		push y              |
		Touch 1 a           | true [x:1 y:0 a:0]
		bump top            |
		Touch 1 b           | true [x:1 y:0 a:1 b:0]
		Touch 2 a           | true [x:1 y:0 a:1 b:0 a:0]
		pop bottom          |
		Touch 3 a           | true [y:0 a:1 b:0 a:0 a:0]`)
	both(t, "P16.2: a key that stands there, and is not marked", `
		blob a              | true
		push a              |
		Touch 1 a           | true [a:0 a:0]
		pop top             |
		pop top             |
		Touch 1 a           | false []`)
}

// P16.2: the least and the greatest key, and keys that are alike but for a byte.
func TestTouchKeys(t *testing.T) {
	both(t, "P16.2: keys at the ends", `
		blob 0 ~ ab         | true true true
		Touch 1 a ac b      | false false false []
		Touch 1 0 ~ ab      | true true true [0:0 ~:0 ab:0]
		marks               | 0=1 ab=1 ~=1`)
	both(t, "P16.2: of an empty index", `
		Touch 0 0 a ~       | false false false []
		Touch 1 0 a ~       | false false false []
		marks               |`)
}

// P16.2: the record is not looked at; nothing of the entry changes but its Mark, and no other entry, and nothing of the arena.
func TestTouchChanges(t *testing.T) {
	s := made(t)
	was := map[string]api.Entry{
		"a": {Place: s.lay(record(thing("blob"))), Size: 15, Mark: 3},
		"b": {Place: api.Place{Seg: -1, Off: -2}, Size: -3, Mark: 3},
		"c": {Place: api.Place{Seg: 1 << 62, Off: 1<<63 - 1}, Size: -1 << 63},
		"0": {},
	}
	for w, e := range was {
		s.x.Put(keyed(w), e)
	}
	for i, w := range []string{"b", "0", "a", "c"} {
		n := uint32(1000 + i)
		bytes := s.a.Bytes(0)
		is(t, "P16.2: Touch of "+w, s.Touch(keyed(w), n), true)
		e := was[w]
		e.Mark = n
		was[w] = e
		for v, e := range was {
			got, ok := s.x.Get(keyed(v))
			is(t, "P16.2: Touch of "+w+": the entry of "+v, got, e)
			is(t, "P16.2: Touch of "+w+": the entry of "+v, ok, true)
		}
		is(t, "P16.2: the index's length", s.x.Len(), len(was))
		is(t, "P16.2: the list's length", s.l.Len(), i+1)
		is(t, "P16.2: the arena", string(s.a.Bytes(0)), string(bytes))
	}
}

// P16.2: where the answer is false nothing changes.
func TestTouchFalse(t *testing.T) {
	s := made(t)
	call(s, "tree t a b")
	call(s, "snap s t")
	call(s, "mark 6 t s")
	call(s, "push a")
	call(s, "bump top")
	want := s.scene()
	for range 3 {
		for _, w := range []string{"t", "s", "a", "b", "0", "~"} {
			is(t, "P16.2: Touch of "+w, s.Touch(keyed(w), 6), false)
			is(t, "P16.2: behind Touch of "+w, s.scene(), want)
		}
	}
}

// P16.2: many keys, each touched twice in each of some epochs.
func TestTouchMany(t *testing.T) {
	s, p := made(t), &plain{}
	for i := range 300 {
		s.x.Put(numbered(i), api.Entry{Size: i})
		p.in = append(p.in, held{marked: marked{key: numbered(i)}})
	}
	for n := range uint32(4) {
		for i := range 700 {
			k := numbered(i * 3 % 350)
			is(t, "P16.2: Touch "+strconv.Itoa(i), s.Touch(k, n), p.Touch(k, n))
		}
	}
	sameAs(t, "P16.2: many", s, p)
	is(t, "P16.2: many: the list's length", s.l.Len(), 900)
}
