package mark_test

import (
	"strings"
	"testing"

	"gleaner/api"
)

// P16.3: the chapter's examples.
func TestPieceExamples(t *testing.T) {
	both(t, "P16.3: the chapter's", `
		blob b c            | true true
		tree t b c b        | true
		Touch 1 t           | true [t:0]
		Piece 1 top         | true OK [t:1 b:0]
		Piece 1 top         | true OK [t:1]
		Piece 1 top top     | true OK [t:2 c:0] true OK [t:2]
		Piece 1 bottom bottom bottom | true OK [t:3] true OK [] false OK []
		marks               | b=1 c=1 t=1`)
}

// P16.3: at each end of an empty list, of one of one key, and of one of several.
func TestPieceEnds(t *testing.T) {
	both(t, "P16.3: of none", `
		tree t b            | true
		Piece 1 top bottom top | false OK [] false OK [] false OK []
		Piece 0 bottom      | false OK []
		marks               | t=0`)
	for _, end := range []string{"top", "bottom"} {
		both(t, "P16.3: of one, at the "+end, strings.ReplaceAll(`
			blob b              | true
			tree t b            | true
			push t              |
			Piece 1 END         | true OK [t:1 b:0]
			marks               | b=1 t=0
			pop top             |
			Piece 1 END         | true OK []
			Piece 1 END         | false OK []
			marks               | b=1 t=0`, "END", end))
	}
	both(t, "P16.3: of several, at the bottom", `
		blob x y            | true true
		tree t x            | true
		tree u y            | true
		push t              |
		push u              |
		Piece 1 bottom      | true OK [t:1 u:0 x:0]
		marks               | t=0 u=0 x=1 y=0
		Piece 1 bottom      | true OK [u:0 x:0]
		Piece 1 bottom      | true OK [u:1 x:0 y:0]
		marks               | t=0 u=0 x=1 y=1
		Piece 1 bottom bottom bottom | true OK [x:0 y:0] true OK [y:0] true OK []`)
	both(t, "P16.3: of several, at the top", `
		blob x y            | true true
		tree t x            | true
		tree u y            | true
		push t              |
		push u              |
		Piece 1 top         | true OK [t:0 u:1 y:0]
		marks               | t=0 u=0 x=0 y=1
		Piece 1 top         | true OK [t:0 u:1]
		Piece 1 top         | true OK [t:0]
		Piece 1 top         | true OK [t:1 x:0]
		Piece 1 top top     | true OK [t:1] true OK []`)
	both(t, "P16.3: of several, at both ends in turns", `
		blob x y            | true true
		tree t x y          | true
		tree u y x          | true
		push t              |
		push u              |
		Piece 1 bottom      | true OK [t:1 u:0 x:0]
		Piece 1 top         | true OK [t:1 u:0]
		Piece 1 top         | true OK [t:1 u:1 y:0]
		Piece 1 bottom      | true OK [t:2 u:1 y:0]
		Piece 1 top top     | true OK [t:2 u:1] true OK [t:2 u:2]
		Piece 1 bottom bottom | true OK [u:2] true OK []
		marks               | t=0 u=0 x=1 y=1`)
}

// P16.3: of keys with no kids, of each kind.
func TestPieceNoKids(t *testing.T) {
	both(t, "P16.3: no kids", `
		blob b              | true
		list l              | true
		tree t              | true
		push b              |
		push l              |
		push t              |
		push b              |
		Piece 1 bottom      | true OK [l:0 t:0 b:0]
		Piece 1 top         | true OK [l:0 t:0]
		Piece 1 bottom      | true OK [t:0]
		Piece 1 top         | true OK []
		marks               | b=0 l=0 t=0`)
}

// P16.3: of keys with kids, of each kind; one kid a Piece, in their order.
func TestPieceKids(t *testing.T) {
	both(t, "P16.3: one kid each", `
		blob a              | true
		list l a            | true
		tree t l            | true
		snap s t            | true
		push s              |
		Piece 1 bottom      | true OK [s:1 t:0]
		Piece 1 top         | true OK [s:1 t:1 l:0]
		Piece 1 top         | true OK [s:1 t:1 l:1 a:0]
		Piece 1 top         | true OK [s:1 t:1 l:1]
		Piece 1 bottom      | true OK [t:1 l:1]
		Piece 1 top         | true OK [t:1]
		Piece 1 top         | true OK []
		marks               | a=1 l=1 s=0 t=1`)
	both(t, "P16.3: several kids of a snapshot", `
		blob a b c d        | true true true true
		snap s c a d b      | true
		push s              |
		Piece 7 bottom      | true OK [s:1 c:0]
		marks               | a=0 b=0 c=7 d=0 s=0
		Piece 7 bottom      | true OK [s:2 c:0 a:0]
		marks               | a=7 b=0 c=7 d=0 s=0
		Piece 7 bottom      | true OK [s:3 c:0 a:0 d:0]
		marks               | a=7 b=0 c=7 d=7 s=0
		Piece 7 bottom      | true OK [s:4 c:0 a:0 d:0 b:0]
		marks               | a=7 b=7 c=7 d=7 s=0
		Piece 7 bottom      | true OK [c:0 a:0 d:0 b:0]`)
	both(t, "P16.3: the same kid twice, side by side and apart", `
		blob a b            | true true
		list l a a b a      | true
		push l              |
		Piece 1 bottom      | true OK [l:1 a:0]
		Piece 1 bottom      | true OK [l:2 a:0]
		Piece 1 bottom      | true OK [l:3 a:0 b:0]
		Piece 1 bottom      | true OK [l:4 a:0 b:0]
		Piece 1 bottom      | true OK [a:0 b:0]
		marks               | a=1 b=1 l=0`)
}

// P16.3: kids that are marked already, and kids that the index has not, are gone by all the same.
func TestPieceKidsLet(t *testing.T) {
	both(t, "P16.3: kids that are marked", `
		blob a b c          | true true true
		tree t a b c        | true
		mark 5 a c          | true true
		push t              |
		Piece 5 top         | true OK [t:1]
		Piece 5 top         | true OK [t:2 b:0]
		Piece 5 bottom      | true OK [t:3 b:0]
		Piece 5 bottom      | true OK [b:0]
		marks               | a=5 b=5 c=5 t=0`)
	both(t, "P16.3: kids that are marked for another epoch", `
		blob a              | true
		tree t a a          | true
		mark 5 a            | true
		push t              |
		Piece 4 bottom      | true OK [t:1 a:0]
		Piece 5 bottom      | true OK [t:2 a:0 a:0]
		marks               | a=5 t=0`)
	both(t, "P16.3: the zero epoch, and the greatest", `
		blob a b            | true true
		tree t a b          | true
		mark 1 a            | true
		push t              |
		Piece 0 bottom      | true OK [t:1 a:0]
		Piece 0 bottom      | true OK [t:2 a:0]
		Piece 0 bottom      | true OK [a:0]
		push t              |
		Piece greatest top  | true OK [a:0 t:1 a:0]
		marks               | a=4294967295 b=0 t=0`)
	both(t, "P16.3: kids that are not there", `
		blob b              | true
		tree t a b c        | true
		push t              |
		Piece 5 top         | true OK [t:1]
		Piece 5 bottom      | true OK [t:2 b:0]
		Piece 5 bottom      | true OK [t:3 b:0]
		Piece 5 bottom      | true OK [b:0]
		marks               | b=5 t=0`)
	both(t, "P16.3: a kid whose record is broken is touched", `
		blob a              | true
		tree t a            | true
		spoil a             |
		push t              |
		Piece 5 top         | true OK [t:1 a:0]
		Piece 5 top         | true ErrBroken [t:1]
		marks               | a=5 t=0`)
}

// P16.3: a Next that is the number of the kids, one less, or above it.
func TestPieceNext(t *testing.T) {
	both(t, "P16.3: Next, at the top", `
		blob a b            | true true
		tree t a b          | true
		push x              |
		push t              |
		bump top            |
		Piece 1 top         | true OK [x:0 t:2 b:0]
		pop top             |
		Piece 1 top         | true OK [x:0]
		push t              |
		bump top            |
		bump top            |
		bump top            |
		Piece 1 top         | true OK [x:0]
		marks               | a=0 b=1 t=0`)
	both(t, "P16.3: Next, at the bottom", `
		blob a b            | true true
		tree t a b          | true
		push t              |
		push x              |
		bump bottom         |
		bump bottom         |
		bump bottom         |
		bump bottom         |
		Piece 1 bottom      | true OK [x:0]
		Piece 1 bottom      | true ErrGone []
		push a              |
		bump top            |
		Piece 1 bottom      | true OK []
		marks               | a=0 b=0 t=0`)
}

// P16.3: a key whose Kids is an error is taken off at the end that was looked at; nothing else changes.
func TestPieceErrors(t *testing.T) {
	both(t, "P16.3: gone", `
		tree t a            | true
		push t              |
		push g              |
		bump top            |
		push t              |
		push h              |
		Piece 1 top         | true ErrGone [t:0 g:1 t:0]
		pop bottom          |
		Piece 1 bottom      | true ErrGone [t:0]
		marks               | t=0
		del t               | true
		Piece 1 bottom      | true ErrGone []
		Piece 1 bottom      | false OK []`)
	both(t, "P16.3: broken", `
		blob a              | true
		tree t a            | true
		tree u a            | true
		spoil u             |
		push u              |
		push t              |
		push u              |
		bump bottom         |
		bump top            |
		bump top            |
		Piece 1 top         | true ErrBroken [u:1 t:0]
		Piece 1 bottom      | true ErrBroken [t:0]
		marks               | a=0 t=0 u=0
		Piece 1 bottom      | true OK [t:1 a:0]`)
	both(t, "P16.3: broken or gone between two Pieces", `
		blob a b            | true true
		tree t a b          | true
		Touch 1 t           | true [t:0]
		Piece 1 bottom      | true OK [t:1 a:0]
		spoil t             |
		Piece 1 bottom      | true ErrBroken [a:0]
		del a               | true
		Piece 1 bottom      | true ErrGone []
		marks               | b=0 t=1`)
	both(t, "P16.3: the same key at both ends: one of them is taken off", `
		push g              |
		push g              |
		bump top            |
		Piece 1 top         | true ErrGone [g:0]
		push g              |
		bump top            |
		Piece 1 bottom      | true ErrGone [g:1]`)
}

// P16.3: the kids are those that there are now, at each Piece.
func TestPieceAnew(t *testing.T) {
	both(t, "P16.3: more kids than before", `
		blob a b c          | true true true
		tree t a            | true
		push t              |
		Piece 1 bottom      | true OK [t:1 a:0]
		del t               | true
		list t c b          | true
		Piece 1 bottom      | true OK [t:2 a:0 b:0]
		marks               | a=1 b=1 c=0 t=0
		Piece 1 bottom      | true OK [a:0 b:0]`)
	both(t, "P16.3: fewer kids than before", `
		blob a b c          | true true true
		tree t a b c        | true
		push t              |
		Piece 1 bottom bottom | true OK [t:1 a:0] true OK [t:2 a:0 b:0]
		del t               | true
		list t c            | true
		Piece 1 bottom      | true OK [a:0 b:0]
		marks               | a=1 b=1 c=0 t=0`)
	both(t, "P16.3: a kid that is put, and one that is unmarked, meanwhile", `
		tree t a b          | true
		blob b              | true
		mark 1 b            | true
		push t              |
		blob a              | true
		Piece 1 bottom      | true OK [t:1 a:0]
		mark 0 b            | true
		Piece 1 bottom      | true OK [t:2 a:0 b:0]`)
	both(t, "P16.3: mended", `
		blob a              | true
		tree t a            | true
		spoil t             |
		spoil t             |
		push t              |
		Piece 1 top         | true OK [t:1 a:0]`)
}

// P16.3: keys that stand in their own objects, and on the list several times.
func TestPieceItself(t *testing.T) {
	both(t, "P16.3: its own kid", `
		tree t t t          | true
		Touch 1 t           | true [t:0]
		Piece 1 top top top | true OK [t:1] true OK [t:2] true OK []
		push t              |
		Piece 2 top         | true OK [t:1 t:0]
		marks               | t=2
		Piece 2 top top top | true OK [t:1 t:1] true OK [t:1 t:2] true OK [t:1]
		Piece 2 bottom bottom | true OK [t:2] true OK []`)
	both(t, "P16.3: round about", `
		tree a b            | true
		tree b c            | true
		tree c a            | true
		Touch 1 b           | true [b:0]
		Piece 1 top top top | true OK [b:1 c:0] true OK [b:1 c:1 a:0] true OK [b:1 c:1 a:1]
		Piece 1 bottom top top | true OK [c:1 a:1] true OK [c:1] true OK []
		marks               | a=1 b=1 c=1`)
	both(t, "P16.3: on the list twice", `
		blob a b            | true true
		tree t a b          | true
		push t              |
		push t              |
		Piece 1 bottom      | true OK [t:1 t:0 a:0]
		pop top             |
		Piece 1 top         | true OK [t:1 t:1]
		Piece 1 top         | true OK [t:1 t:2 b:0]
		Piece 1 bottom      | true OK [t:2 t:2 b:0]`)
}

// P16.3: the key's own mark is not asked for, and not changed.
func TestPieceUnmarked(t *testing.T) {
	both(t, "P16.3: unmarked, and marked for others", `
		blob a b            | true true
		tree t a            | true
		tree u b            | true
		mark 3 u            | true
		push t              |
		push u              |
		Piece 1 top         | true OK [t:0 u:1 b:0]
		Piece 1 bottom      | true OK [t:1 u:1 b:0 a:0]
		marks               | a=1 b=1 t=0 u=3`)
}

// P16.3: as many kids as there may be, of a list, a tree and a snapshot.
func TestPieceMost(t *testing.T) {
	for _, kind := range []string{"list", "tree", "snap"} {
		for _, end := range []bool{true, false} {
			s, p := made(t), &plain{}
			var kids []api.Key
			for i := range api.MaxKids {
				kids = append(kids, numbered(i*i%100))
			}
			for _, w := range []world{s, p} {
				for i := range 80 {
					w.put(numbered(i), thing("blob"), uint32(i%2))
				}
				w.put(keyed("t"), thing(kind, kids...), 0)
				w.push(keyed("t"))
			}
			n := 0
			for len(p.list) > 0 && n < 1000 {
				is(t, "P16.3: Piece", pieceTold(s.Piece(1, end)), pieceTold(p.Piece(1, end)))
				sameAs(t, "P16.3: behind a Piece", s, p)
				n++
			}
			is(t, "P16.3: "+kind+": Pieces", n, 129+pushed(p))
			is(t, "P16.3: Piece of none", pieceTold(s.Piece(1, end)), "false OK")
		}
	}
}

// pushed is how many of the even numbers below 80 are 1 now: those blobs were touched by it.
func pushed(p *plain) int {
	n := 0
	for i := 0; i < 80; i += 2 {
		if p.in[p.at(numbered(i))].mark == 1 {
			n++
		}
	}
	return n
}

// P16.3: nothing of the arena changes, and of the index's entries nothing but one Mark.
func TestPieceChanges(t *testing.T) {
	s := made(t)
	plays(t, "ahead", s, `
		blob a b            | true true
		tree t a b          | true
		snap s t            | true
		spoil b             |
		push x              |
		push b              |
		push s              |`)
	s.a.Seal()
	for _, end := range []bool{true, false, true, false, false, false, true, false, true} {
		was := map[api.Key]api.Entry{}
		for k, e := range s.x.All() {
			was[k] = e
		}
		bytes, books := string(s.a.Bytes(0)), s.a.Segments()[0]
		s.Piece(9, end)
		turned := 0
		for k, e := range s.x.All() {
			if e != was[k] {
				turned++
				e.Mark = was[k].Mark
				is(t, "P16.3: the rest of an entry", e, was[k])
			}
		}
		is(t, "P16.3: at most one Mark", turned < 2, true)
		is(t, "P16.3: the index's length", s.x.Len(), len(was))
		is(t, "P16.3: the arena's bytes", string(s.a.Bytes(0)), bytes)
		is(t, "P16.3: the arena's books", s.a.Segments()[0], books)
	}
}
