package compact_test

import (
	"slices"
	"strconv"
	"testing"

	"gleaner/api"
)

// P18.3: Ready at each of the acts of a segment that somebody holds, and of one that nobody holds.
func TestReady(t *testing.T) {
	both(t, "P18.3: the present one is held all the while", `
		put a10 b10              | 0.0 0.20
		waste c10                | 0.40
		New                      |
		hold 0                   | OK
		Ready                    | true
		Act                      | false
		Ready                    | true
		Act                      | false
		Ready                    | true
		Act                      | false
		Ready                    | true
		Act                      | false
		At                       | 0.40
		Ready                    | true
		Act                      | false
		At                       | 0.60
		Ready                    | false
		Act                      | false
		Ready                    | false
		let 0                    | OK
		Ready                    | true
		hold 0                   | OK
		Ready                    | false
		let 0                    | OK
		Act                      | false
		Ready                    | true
		counts                   | 2 1 0
		Act                      | true
		Ready                    | true
		hold 3                   | OK
		Ready                    | true`)
	both(t, "P18.3: the turn of the last record is due", `
		put a10                  | 0.0
		New                      |
		Act                      | false
		hold 0 3                 | OK OK
		Ready                    | true
		Act                      | false
		Ready                    | false
		counts                   | 1 0 0
		let 0                    | OK
		Ready                    | true`)
	both(t, "P18.3: others are held, the mover's end and those that follow", `
		waste a10 0*80           | 0.0 0.20
		put b80 c10              | 1.0 2.0
		waste d10                | 2.20
		sweep b80                | OK
		New                      |
		Todo                     | 0 1 2
		hold 1 2                 | OK OK
		Ready                    | true
		Act 2                    | false false
		counts                   | 0 0 1
		At                       | 1.0
		Ready                    | true
		Act                      | false
		At                       | 1.90
		Ready                    | false
		let 1                    | OK
		Ready                    | true
		Act                      | false
		counts                   | 0 1 1
		At                       | 2.0
		Act                      | false
		hold 3                   | OK
		Ready                    | true
		Act 2                    | false false
		At                       | 2.40
		Ready                    | false
		let 2                    | OK
		Ready                    | true
		Act 2                    | false true
		counts                   | 1 2 1`)
}

// P18.3: where Ready is false Act changes nothing, however often it is called, and answers false.
func TestActWaits(t *testing.T) {
	s := made(t, usual)
	call(s, "put a10 b10 c80")
	s.begin()
	call(s, "hold 0 0")
	for s.Ready() {
		s.Act()
	}
	call(s, "put d10") // what others do meanwhile shows
	want := scene(s) + told(s)
	for i := range 10 {
		is(t, "P18.3: Act "+strconv.Itoa(i), s.Act(), false)
		is(t, "P18.3: behind it", scene(s)+told(s), want)
	}
	call(s, "let 0")
	is(t, "P18.3: one holds it still", s.Ready(), false)
	call(s, "let 0")
	is(t, "P18.3: nobody holds it", s.Ready(), true)
	is(t, "P18.3: Act", s.Act(), false)
	is(t, "P18.3: it goes on", told(s), "2 1 0 of [] at -1.-1 true")
}

// P18.3, P18.4: what is asked changes nothing.
func TestAsking(t *testing.T) {
	s, z := made(t, usual), made(t, usual)
	for _, w := range []*store{s, z} {
		call(w, "put a10 b10")
		call(w, "waste c30 0*80")
		w.begin()
	}
	for !z.Act() {
		s.Act()
		for range 20 {
			is(t, "P18.4: asked again and again", told(s), told(z))
		}
		is(t, "P18.4: the parts", scene(s), scene(z))
	}
}

// P18.4: Todo and At ahead of the first act, behind each act, while the turn is due, and behind the last; Moved, Freed and Left.
func TestTold(t *testing.T) {
	s := made(t, api.Config{Segs: 6, Size: 100})
	plays(t, "P18.4", s, `
		put a10                  | 0.0
		waste 0*70               | 0.20
		put b20                  | 1.0
		waste c60                | 1.30
		put d30                  | 2.0
		waste e50                | 2.40
		put f80 g0               | 3.0 3.90
		New                      |`)
	want := []string{
		"0 0 0 of [0 1 2] at 0.0 true",
		"0 0 0 of [0 1 2] at 0.0 true", // a is written
		"1 0 0 of [0 1 2] at 0.20 true",
		"1 0 1 of [1 2] at 1.0 true",
		"1 0 1 of [1 2] at 1.0 true", // b
		"2 0 1 of [1 2] at 1.30 true",
		"2 0 1 of [1 2] at 1.100 true",
		"2 1 1 of [2] at 2.0 true",
		"2 1 1 of [2] at 2.0 true", // d
		"3 1 1 of [2] at 2.40 true",
		"3 1 1 of [2] at 2.100 true",
		"3 2 1 of [] at -1.-1 true",
		"3 2 1 of [] at -1.-1 true", // it is done
		"3 2 1 of [] at -1.-1 true",
	}
	for i, w := range want {
		is(t, "P18.4: behind "+strconv.Itoa(i)+" acts", told(s), w)
		is(t, "P18.2: act "+strconv.Itoa(i+1), s.Act(), i >= len(want)-3)
	}
}

// P18.4: what Todo answers is new memory: what is done to it, and to the room behind it, changes nothing; and it stays as it was.
func TestTodoNew(t *testing.T) {
	s := made(t, api.Config{Segs: 6, Size: 100})
	call(s, "waste a80 b80 c80 d80")
	s.begin()
	for _, want := range [][]int{{0, 1, 2, 3}, {0, 1, 2, 3}, {1, 2, 3}, {1, 2, 3}, {2, 3}} {
		one, two := s.Todo(), s.Todo()
		is(t, "P18.4: Todo", numbered(one), numbered(want))
		one = append(one[:1], 9, 9, 9)
		clear(one[:cap(one)])
		is(t, "P18.4: the other answer", slices.Equal(two, want), true)
		is(t, "P18.4: the next answer", slices.Equal(s.Todo(), want), true)
		s.Act()
		is(t, "P18.4: behind an act", slices.Equal(two, want), true)
	}
}
