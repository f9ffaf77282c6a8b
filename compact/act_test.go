package compact_test

import (
	"testing"

	"gleaner/api"
)

// The chapter's examples.
func TestChapter(t *testing.T) {
	both(t, "the chapter's example", `
		put a20 b20              | 0.0 0.30
		sweep a20                | OK
		New                      |
		Todo                     | 0
		At                       | 0.0
		Act                      | false
		At                       | 0.30
		Act                      | false
		At                       | 0.30
		segs                     | x60/30 f f d30/0p
		stands 3.0 b20           | true
		entries                  | b20=0.30+30/1
		Act                      | false
		At                       | 0.60
		counts                   | 1 0 0
		entries                  | b20=3.0+30/1
		hold 0                   | OK
		Ready                    | false
		Act                      | false
		segs                     | x60/0h f f d30/30
		let 0                    | OK
		Act                      | false
		counts                   | 1 1 0
		Todo                     |
		At                       | -1.-1
		Act                      | true
		Ready                    | true
		Act                      | true
		segs                     | s f f o30/30`)
}

// P18.2, 1: a mover that is done does nothing, whatever there is to do by then.
func TestActDone(t *testing.T) {
	both(t, "P18.2, 1: done", `
		put a20 b20              | 0.0 0.30
		sweep a20                | OK
		New                      |
		Act 6                    | false false false false true true
		put c60 d20              | 3.30 1.0
		sweep c60 b20            | OK OK
		seal                     |
		segs                     | s x30/30 f x100/0
		Act 3                    | true true true
		segs                     | s x30/30 f x100/0
		counts                   | 1 1 0
		Todo                     |
		At                       | -1.-1
		hold 1 3                 | OK OK
		Ready                    | true
		Act                      | true
		entries                  | d20=1.0+30/1`)
}

// P18.2, 1: a mover that is done does nothing while another one is under way, whose segment Finish would hand on.
func TestActDoneBeside(t *testing.T) {
	s := made(t, usual)
	call(s, "put a20")
	s.begin()
	for !s.Act() {
	}
	done := s.Mover
	call(s, "put b10")
	s.begin()
	for s.Moved() < 2 {
		is(t, "P18.2: Act", s.Act(), false)
		want := scene(s) + told(s)
		is(t, "P18.2, 1: Act of the one that is done", done.Act(), true)
		is(t, "P18.2, 1: nothing changes", scene(s)+told(s), want)
		is(t, "P18.2, 1: what it tells", told(done), "1 1 0 of [] at -1.-1 true")
	}
	is(t, "P18.2: the mover's", call(s, "segs"), "d50/50 f f x50/0")
}

// P18.2, 2: the turn, if the index has the old place under the key.
func TestTurn(t *testing.T) {
	both(t, "P18.2, 2: the old place", `
		put a20 b10              | 0.0 0.30
		mark 7 a20               | true
		New                      |
		Act                      | false
		entries                  | a20=0.0+30/7 b10=0.30+20/1
		segs                     | x50/50 f f d30/0p
		counts                   | 0 0 0
		Act                      | false
		entries                  | a20=3.0+30/7 b10=0.30+20/1
		segs                     | x50/20 f f d30/30
		counts                   | 1 0 0
		At                       | 0.30
		Act 2                    | false false
		entries                  | a20=3.0+30/7 b10=3.30+20/1
		segs                     | x50/0 f f d50/50
		counts                   | 2 0 0`)
	both(t, "P18.2, 2: it is marked meanwhile", `
		put a20                  | 0.0
		New                      |
		Act                      | false
		mark 9 a20               | true
		Act                      | false
		entries                  | a20=3.0+30/9
		counts                   | 1 0 0`)
	both(t, "P18.2, 2: it is said to be dead, and stays in the index", `
		put a20                  | 0.0
		New                      |
		Act                      | false
		dead 0.0+30              | OK
		Act                      | false
		entries                  | a20=3.0+30/1
		segs                     | x30/0 f f d30/30
		counts                   | 1 0 0`)
	both(t, "P18.2, 2: an entry of another size", `
		lay a20                  | 0.0
		enter a20=0.0+29         | true
		New                      |
		Act 2                    | false false
		entries                  | a20=3.0+29/1
		segs                     | x30/0 f f d30/30
		counts                   | 1 0 0
		At                       | 0.30`)
	both(t, "P18.2, 2: a record that was dead from the first", `
		waste a20                | 0.0
		enter a20=0.0+30         | true
		New                      |
		Act 2                    | false false
		entries                  | a20=3.0+30/1
		segs                     | x30/0 f f d30/30
		counts                   | 1 0 0`)
}

// P18.2, 2: the turn, if the index has another place there, or none: what was written is dead, and nothing else changes.
func TestTurnElse(t *testing.T) {
	both(t, "P18.2, 2: the key is swept", `
		put a20 b10              | 0.0 0.30
		New                      |
		Act                      | false
		sweep a20                | OK
		Act                      | false
		entries                  | b10=0.30+20/1
		segs                     | x50/20 f f d30/0
		counts                   | 0 0 0
		At                       | 0.30
		Act 2                    | false false
		entries                  | b10=3.30+20/1
		segs                     | x50/0 f f d50/20
		counts                   | 1 0 0
		Act 2                    | false true
		segs                     | s f f o50/20`)
	both(t, "P18.2, 2: the key is taken out, its record stays live", `
		put a20 b10              | 0.0 0.30
		New                      |
		Act                      | false
		del a20                  | true
		Act                      | false
		segs                     | x50/50 f f d30/0
		counts                   | 0 0 0
		At                       | 0.30
		Act 3                    | false false false
		counts                   | 1 0 1
		segs                     | x50/30 f f d50/20`)
	both(t, "P18.2, 2: put anew elsewhere", `
		put a20                  | 0.0
		New                      |
		Act                      | false
		sweep a20                | OK
		put a20                  | 1.0
		Act                      | false
		entries                  | a20=1.0+30/1
		segs                     | x30/0 o30/30 f d30/0
		counts                   | 0 0 0
		At                       | 0.30`)
	both(t, "P18.2, 2: moved by another", `
		put a10                  | 0.0
		lay a10                  | 0.20
		New                      |
		Act                      | false
		move a10 0.20            | true
		Act                      | false
		entries                  | a10=0.20+20/1
		counts                   | 0 0 0
		segs                     | x40/40 f f d20/0
		At                       | 0.20
		Act 2                    | false false
		entries                  | a10=3.20+20/1
		counts                   | 1 0 0
		segs                     | x40/20 f f d40/20`)
	both(t, "P18.2, 2: taken out, and back at the old place", `
		put a20                  | 0.0
		New                      |
		Act                      | false
		del a20                  | true
		enter a20=0.0+17         | true
		Act                      | false
		entries                  | a20=3.0+17/1
		counts                   | 1 0 0
		segs                     | x30/0 f f d30/30`)
}

// P18.2, 3: Finish, with an open segment and without, with a spare and without.
func TestFinish(t *testing.T) {
	both(t, "P18.2, 3: nobody put", `
		put a20                  | 0.0
		New                      |
		Act 3                    | false false false
		segs                     | s f f d30/30
		Act                      | true
		segs                     | s f f o30/30`)
	both(t, "P18.2, 3: somebody put", `
		put a20                  | 0.0
		New                      |
		Act 3                    | false false false
		put b20                  | 1.0
		segs                     | s o30/30 f d30/30
		Act                      | true
		segs                     | s o30/30 f x30/30`)
	both(t, "P18.2, 3: a free one becomes the spare", `
		put a20                  | 0.0
		waste 0*10               | 0.30
		New                      |
		Act 3                    | false false false
		segs                     | x40/0 f f d30/30
		counts                   | 1 0 1
		Ready                    | true
		Act                      | true
		segs                     | x40/0 s f o30/30
		counts                   | 1 0 1`)
	both(t, "P18.2, 3: with nothing moved", `
		waste a20                | 0.0
		New                      |
		Act 2                    | false false
		counts                   | 0 1 0
		segs                     | f f f s
		Act                      | true
		segs                     | f f f s`)
}

// P18.2, 4: behind the last used byte: the segment is freed, as soon as nobody holds it.
func TestFree(t *testing.T) {
	both(t, "P18.2, 4: nobody holds it", `
		waste a20                | 0.0
		put b90                  | 1.0
		waste c20                | 2.0
		New                      |
		Todo                     | 0 2
		Act                      | false
		At                       | 0.30
		Todo                     | 0 2
		Act                      | false
		At                       | 2.0
		Todo                     | 2
		counts                   | 0 1 0
		segs                     | f x100/100 x30/0 s
		Act 2                    | false false
		counts                   | 0 2 0
		segs                     | f x100/100 f s`)
	both(t, "P18.2, 4: somebody holds it", `
		put a20 b60 c40          | 0.0 0.30 1.0
		sweep b60                | OK
		New                      |
		Todo                     | 0 1
		hold 0 0 1               | OK OK OK
		Act 3                    | false false false
		At                       | 0.100
		Ready                    | false
		Act 3                    | false false false
		counts                   | 1 0 0
		Todo                     | 0 1
		At                       | 0.100
		segs                     | x100/0hh x50/50h f d30/30
		let 0                    | OK
		Ready                    | false
		Act                      | false
		segs                     | x100/0h x50/50h f d30/30
		let 0                    | OK
		Ready                    | true
		Act                      | false
		segs                     | s x50/50h f d30/30
		counts                   | 1 1 0
		At                       | 1.0`)
	both(t, "P18.2, 4: something in it is live", `
		put a20                  | 0.0
		lay b10                  | 0.30
		waste c80                | 1.0
		New                      |
		Todo                     | 1 0
		Act 2                    | false false
		At                       | 0.0
		Act 3                    | false false false
		At                       | 0.50
		counts                   | 1 1 0
		segs                     | x50/20 f f d30/30
		Act                      | false
		counts                   | 1 1 1
		segs                     | x50/20 f f d30/30
		Todo                     |
		stands 0.30 b10          | true
		Act                      | true
		segs                     | x50/20 s f o30/30`)
	both(t, "P18.2, 4: live, and held: it is not given up before it is let go", `
		lay b10                  | 0.0
		New                      |
		hold 0                   | OK
		Act 4                    | false false false false
		counts                   | 0 0 0
		let 0                    | OK
		Act                      | false
		counts                   | 0 0 1`)
}

// P18.2, 4: what is freed has no byte any more, and no room.
func TestFreed(t *testing.T) {
	s := made(t, usual)
	call(s, "put a20 b60")
	call(s, "sweep b60")
	s.begin()
	for !s.Act() {
	}
	is(t, "P18.2, 4: the freed one's bytes", len(s.Bytes(0)), 0)
	is(t, "P18.2, 4: live", roomed(s.Live()), "3.0+30")
}

// P18.2, 5: a record that the index has at that place is written whole at the mover's end.
func TestWrite(t *testing.T) {
	bothOf(t, "P18.2, 5: records of all lengths", api.Config{Segs: 4, Size: 20000}, `
		put e0 a1 b245 c246      | 0.0 0.10 0.21 0.276
		put d247 f501 g502 h503  | 0.532 0.789 0.1300 0.1812
		put i1200 j3000 k3000    | 0.2325 0.3535 0.6545
		waste l8192              | 0.9555
		New                      |
		Act                      | false
		At                       | 0.0
		stands 3.0 e0            | true
		Act 2                    | false false
		stands 3.10 a1           | true
		At                       | 0.10
		Act 2                    | false false
		stands 3.21 b245         | true
		Act 2                    | false false
		stands 3.276 c246        | true
		Act 2                    | false false
		stands 3.532 d247        | true
		Act 2                    | false false
		stands 3.789 f501        | true
		Act 2                    | false false
		stands 3.1300 g502       | true
		Act 2                    | false false
		stands 3.1812 h503       | true
		Act 2                    | false false
		stands 3.2325 i1200      | true
		Act 2                    | false false
		stands 3.3535 j3000      | true
		Act 2                    | false false
		stands 3.6545 k3000      | true
		At                       | 0.6545
		segs                     | x17757/3010 f f d9555/6545p
		Act                      | false
		counts                   | 11 0 0
		Act 2                    | false false
		counts                   | 11 1 0
		Act                      | true
		segs                     | s f f o9555/9555`)
	bothOf(t, "P18.2, 5: the longest records", api.Config{Segs: 3, Size: api.MaxSeg}, `
		put a32000 b748          | 0.0 0.32010
		waste c32758             | 0.32768
		New                      |
		Act                      | false
		stands 2.0 a32000        | true
		Act 2                    | false false
		stands 2.32010 b748      | true
		Act                      | false
		At                       | 0.32768
		segs                     | x65536/0 f d32768/32768
		Act                      | false
		At                       | 0.65536
		Act 2                    | false true
		counts                   | 2 1 0
		segs                     | s f o32768/32768`)
	bothOf(t, "P18.2, 5: a record that fills a segment", api.Config{Segs: 3, Size: api.MaxSeg}, `
		waste a65526             | 0.0
		enter a65526=0.0+65536   | true
		New                      |
		Act                      | false
		stands 2.0 a65526        | true
		Act                      | false
		At                       | 0.65536
		entries                  | a65526=2.0+65536/1
		Act 2                    | false true
		segs                     | s f o65536/65536`)
}

// P18.2, 5: the mover's segment of before goes on being filled, and the next one is begun when it is full.
func TestWriteNext(t *testing.T) {
	bothOf(t, "P18.2, 5: two segments", api.Config{Segs: 6, Size: 100}, `
		put a30 b50 c30 d50 e30  | 0.0 0.40 1.0 1.40 2.0
		sweep b50 d50            | OK OK
		New                      |
		Todo                     | 0 1 2
		Act 4                    | false false false false
		segs                     | s x100/40 x40/40 f f d40/40
		Act 4                    | false false false false
		segs                     | s f x40/40 f f d80/80
		Act                      | false
		segs                     | d40/0p f x40/40 f f x80/80
		stands 0.0 e30           | true
		Act                      | false
		entries                  | a30=5.0+40/1 c30=5.40+40/1 e30=0.0+40/1
		Act 2                    | false true
		segs                     | o40/40 f s f f x80/80`)
	both(t, "P18.2, 5: that of a mover which was let be", `
		put a20 b20              | 0.0 0.30
		waste 0*30               | 0.60
		put c30                  | 1.0
		New                      |
		Todo                     | 1
		Act 2                    | false false
		sweep a20                | OK
		New                      |
		Todo                     | 1 0
		segs                     | x90/30 x40/0 f d40/40
		Act 2                    | false false
		segs                     | x90/30 s f d40/40
		Act 3                    | false false false
		entries                  | b20=3.40+30/1 c30=3.0+40/1
		counts                   | 1 1 0
		segs                     | x90/0 s f d70/70`)
}

// P18.2, 5: no room at the mover's end: the segment is given up, what was moved stays moved, and the next one is gone on with.
func TestNoRoom(t *testing.T) {
	both(t, "P18.2, 5: no room at once", `
		put a40                  | 0.0
		waste 0*20               | 0.50
		put b40                  | 1.0
		waste 0*20               | 1.50
		put c40                  | 2.0
		New                      |
		Todo                     | 0 1 2
		Act 3                    | false false false
		counts                   | 1 0 1
		Act 3                    | false false false
		counts                   | 2 0 2
		segs                     | x70/0 x70/0 x50/50 d100/100
		At                       | 2.0
		Act                      | false
		counts                   | 2 0 3
		entries                  | a40=3.0+50/1 b40=3.50+50/1 c40=2.0+50/1
		segs                     | x70/0 x70/0 x50/50 d100/100
		Todo                     |
		Act                      | true
		segs                     | x70/0 x70/0 x50/50 o100/100`)
	bothOf(t, "P18.2, 5: no room for the second one; the next segment's is shorter", api.Config{Segs: 5, Size: 100}, `
		put a25                  | 0.0
		waste 0*65               | 0.35
		put b26                  | 1.0
		waste 0*64               | 1.36
		put c1 d27               | 2.0 2.11
		waste 0*52               | 2.48
		put e2 h27               | 3.0 3.12
		waste 0*51               | 3.49
		New                      |
		Todo                     | 0 1 2 3
		Act 3                    | false false false
		counts                   | 1 0 1
		Act 3                    | false false false
		counts                   | 2 0 2
		Act 2                    | false false
		At                       | 2.11
		Act                      | false
		counts                   | 3 0 3
		Todo                     | 3
		At                       | 3.0
		segs                     | x100/0 x100/0 x100/37 x100/49 d82/82
		Act 2                    | false false
		At                       | 3.12
		counts                   | 4 0 3
		Act                      | false
		counts                   | 4 0 4
		entries                  | a25=4.0+35/1 b26=4.35+36/1 c1=4.71+11/1 d27=2.11+37/1 e2=4.82+12/1 h27=3.12+37/1
		segs                     | x100/0 x100/0 x100/37 x100/37 d94/94
		Act                      | true
		segs                     | x100/0 x100/0 x100/37 x100/37 o94/94`)
}

// P18.2, 6: a record that the index does not have, or has elsewhere, is passed over.
func TestPassOver(t *testing.T) {
	both(t, "P18.2, 6: at the first place of all, and in no entry", `
		waste a20 b20            | 0.0 0.30
		New                      |
		Act                      | false
		At                       | 0.30
		Act                      | false
		At                       | 0.60
		counts                   | 0 0 0
		segs                     | x60/0 f f s`)
	both(t, "P18.2, 6: elsewhere in the segment", `
		waste a20                | 0.0
		put b10 a20              | 0.30 0.50
		New                      |
		Act                      | false
		At                       | 0.30
		Act 3                    | false false false
		At                       | 0.50
		stands 3.20 a20          | true
		Act                      | false
		entries                  | a20=3.20+30/1 b10=3.0+20/1
		counts                   | 2 0 0`)
	both(t, "P18.2, 6: at the same offset of another segment", `
		put b10                  | 0.0
		waste a10 c50            | 0.20 0.40
		put d10 a10 e50          | 1.0 1.20 1.40
		sweep b10 d10            | OK OK
		New                      |
		Todo                     | 0
		Act 2                    | false false
		At                       | 0.40
		counts                   | 0 0 0
		entries                  | a10=1.20+20/1 e50=1.40+60/1`)
	both(t, "P18.2, 6: in no segment", `
		waste a20 b20 c20        | 0.0 0.30 0.60
		enter a20=-1.-1+30       | true
		enter b20=4.30+30        | true
		enter c20=0.90+30        | true
		New                      |
		Act 3                    | false false false
		At                       | 0.90
		counts                   | 0 0 0
		Act                      | false
		counts                   | 0 1 0
		entries                  | a20=-1.-1+30/1 b20=4.30+30/1 c20=0.90+30/1`)
	both(t, "P18.2, 6: a place within it, and one ahead of it", `
		put a20                  | 0.0
		waste b20 c20            | 0.30 0.60
		enter b20=0.31+30        | true
		enter c20=0.59+30        | true
		New                      |
		Act 4                    | false false false false
		counts                   | 1 0 0
		At                       | 0.90`)
	both(t, "P18.2, 6: live, but in no entry", `
		lay a20                  | 0.0
		New                      |
		Act                      | false
		At                       | 0.30
		segs                     | x30/30 f f s`)
	both(t, "P18.2, 6: it is in the index by the time at which it is looked at, or is no more", `
		waste a20                | 0.0
		put b10                  | 0.30
		New                      |
		enter a20=0.0+30         | true
		Act 2                    | false false
		entries                  | a20=3.0+30/1 b10=0.30+20/1
		del b10                  | true
		Act                      | false
		At                       | 0.50
		counts                   | 1 0 0`)
}

// P18.2, 7: bytes that are no record: the segment is given up, held or not.
func TestGiveUp(t *testing.T) {
	for _, junk := range []string{"b20!0", "b20!1", "b20!2", "b20!3", "b20!4", "b20!5", "b20!6", "b20!9", "b20!10", "b20!29", "b20<29", "b20<10", "b20<9", "b20<1", "0*30", "0*10", "0*9", "0*1"} {
		s := made(t, usual)
		call(s, "put a20")
		is(t, "P18.2, 7: "+junk, call(s, "waste "+junk), "0.30")
		plays(t, "P18.2, 7: "+junk, s, `
			enter b20=0.30+30        | true
			New                      |
			Act 2                    | false false
			At                       | 0.30
			counts                   | 1 0 0
			hold 0                   | OK
			Ready                    | true
			Act                      | false
			counts                   | 1 0 1
			Todo                     |
			At                       | -1.-1
			entries                  | a20=3.0+30/1 b20=0.30+30/1
			Ready                    | true
			Act                      | true
			counts                   | 1 0 1
			let 0                    | OK`)
		is(t, "P18.2, 7: what stands there", call(s, "stands 0.30 "+junk), "true")
	}
	both(t, "P18.2, 7: cut short, with others behind it", `
		put a10                  | 0.0
		waste b20<15             | 0.20
		put c20                  | 0.35
		New                      |
		Act 3                    | false false false
		counts                   | 1 0 1
		segs                     | x65/30 f f d20/20
		entries                  | a10=3.0+20/1 c20=0.35+30/1`)
	both(t, "P18.2, 7: at the beginning; and the next segment is gone on with", `
		waste 0*60               | 0.0
		put a90 b20              | 1.0 2.0
		New                      |
		Todo                     | 0 2
		Act                      | false
		counts                   | 0 0 1
		At                       | 2.0
		Act 4                    | false false false true
		counts                   | 1 1 1
		segs                     | x60/0 x100/100 s o30/30`)
	both(t, "P18.2, 7: a record that begins a byte behind", `
		put a20                  | 0.0
		waste 0*1                | 0.30
		put b10                  | 0.31
		New                      |
		Act 3                    | false false false
		counts                   | 1 0 1
		entries                  | a20=3.0+30/1 b10=0.31+20/1`)
	bothOf(t, "P18.2, 7: long ones", api.Config{Segs: 6, Size: 3000}, `
		waste a2000!2009         | 0.0
		put p2900                | 1.0
		waste b2000<2009         | 2.0
		put q2900                | 3.0
		waste c300!1 d300        | 4.0 4.310
		New                      |
		Todo                     | 0 2 4
		Act                      | false
		At                       | 2.0
		Act                      | false
		At                       | 4.0
		Act                      | false
		counts                   | 0 0 3`)
}
