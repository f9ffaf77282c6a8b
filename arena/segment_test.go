package arena_test

import (
	"strconv"
	"strings"
	"testing"

	"gleaner/api"
)

// everyState has a segment in each state: 0 is sealed, 1 open, 2 free, 3 the spare, 4 the mover's.
func everyState(t *testing.T) calls {
	t.Helper()
	a := made(t, 5, 100)
	plays(t, "every state", a, `
		Reserve 60          | 0.0 OK
		Reserve 60          | 1.0 OK
		ReserveDest 60      | 4.0 OK
		ReserveDest 60      | 2.0 OK
		ReserveDest 60      | 3.0 OK
		Settle 4 0 60 0     | OK
		Settle 2 0 60 0     | OK
		Finish              | -
		states              | xoxxx
		Settle 3 0 60 0     | OK
		Free 4              | OK
		ReserveDest 60      | 4.0 OK
		Free 3              | OK
		Free 2              | OK
		states              | xofsm`)
	return a
}

// P10.8: at each state, outside of the segments, more Lets than Holds.
func TestHold(t *testing.T) {
	a := everyState(t)
	plays(t, "P10.8", a, `
		Hold -1             | ErrSeg
		Hold 5              | ErrSeg
		Hold max            | ErrSeg
		Hold min            | ErrSeg
		Let -1              | ErrSeg
		Let 5               | ErrSeg
		Let max             | ErrSeg
		Let min             | ErrSeg
		Let 0               | ErrSeg
		Let 1               | ErrSeg
		Let 2               | ErrSeg
		Let 3               | ErrSeg
		Let 4               | ErrSeg
		Hold 2              | ErrSeg
		Hold 3              | ErrSeg
		Hold 0              | OK
		Hold 1              | OK
		Hold 4              | OK
		Hold 1              | OK
		Hold 1              | OK
		segments            | x60 0 1 1, o60 0 1 3, f0 0 0 0, s0 0 0 0, m60 0 1 1
		Let 0               | OK
		Let 0               | ErrSeg
		Let 1               | OK
		Let 4               | OK
		Let 4               | ErrSeg
		segments            | x60 0 1 0, o60 0 1 2, f0 0 0 0, s0 0 0 0, m60 0 1 0
		Let 1               | OK
		Let 1               | OK
		Let 1               | ErrSeg`)
	plays(t, "P10.8: who holds a segment holds it whatever becomes of it", a, `
		Hold 1              | OK
		Hold 4              | OK
		Seal                | -
		Finish              | -
		segments            | x60 0 1 0, x60 0 1 1, f0 0 0 0, s0 0 0 0, o60 0 1 1
		Let 1               | OK
		Let 4               | OK
		segments            | x60 0 1 0, x60 0 1 0, f0 0 0 0, s0 0 0 0, o60 0 1 0`)
	for range 1000 {
		a.Hold(0)
	}
	is(t, "P10.8: a thousand", strconv.Itoa(a.Segments()[0].Held), "1000")
}

// P10.8: a hold is nothing but that: room is reserved, written, settled and read as without it.
func TestHoldBeside(t *testing.T) {
	plays(t, "P10.8", made(t, 3, 100), `
		Reserve 10          | 0.0 OK
		Hold 0              | OK
		Reserve 10          | 0.10 OK
		Write 0 10 1 5      | OK
		Settle 0 10 10 1    | OK
		Dead 0 10 10        | OK
		Settle 0 0 10 0     | OK
		Read 0 10 1         | 05 OK
		Seal                | -
		Victims             | 0
		Free 0              | ErrHeld
		Let 0               | OK
		Free 0              | OK`)
}

// P10.10: with an open one, with none, and behind it.
func TestSeal(t *testing.T) {
	a := made(t, 3, 100)
	plays(t, "P10.10", a, `
		Seal                | -
		states              | ffs
		Reserve 10          | 0.0 OK
		Settle 0 0 10 1     | OK
		Hold 0              | OK
		Reserve 7           | 0.10 OK
		ReserveDest 3       | 2.0 OK
		Seal                | -
		segments            | x17 10 1 1, f0 0 0 0, m3 0 1 0
		Seal                | -
		segments            | x17 10 1 1, f0 0 0 0, m3 0 1 0
		Reserve 1           | 1.0 OK
		states              | xom
		Seal                | -
		states              | xxm
		Reserve 1           | ErrFull`)
	all := everyState(t)
	all.Seal()
	is(t, "P10.10: every state", states(all), "xxfsm")
}

// P10.11: just half and one byte more, by Live and by number, with something pending, in other states.
func TestVictims(t *testing.T) {
	a := made(t, 8, 101)
	plays(t, "P10.11", a, `
		Victims             |
		Reserve 50          | 0.0 OK
		Reserve 51          | 0.50 OK
		Settle 0 0 50 1     | OK
		Settle 0 50 51 0    | OK
		Reserve 51          | 1.0 OK
		Reserve 50          | 1.51 OK
		Settle 1 0 51 1     | OK
		Settle 1 51 50 0    | OK
		Reserve 101         | 2.0 OK
		Settle 2 0 101 0    | OK
		Victims             | 0
		Reserve 20          | 3.0 OK
		Settle 3 0 20 1     | OK
		Victims             | 2 0
		Reserve 100         | 4.0 OK
		Victims             | 2 3 0
		Settle 4 0 100 0    | OK
		Reserve 99          | 5.0 OK
		Victims             | 2 4 3 0
		Settle 5 0 99 0     | OK
		Victims             | 2 4 3 0
		Reserve 1           | 5.99 OK
		Seal                | -
		Victims             | 2 4 3 0
		Settle 5 99 1 0     | OK
		Victims             | 2 4 5 3 0
		Dead 0 0 50         | OK
		Victims             | 0 2 4 5 3
		Dead 1 0 51         | OK
		Victims             | 0 1 2 4 5 3
		Hold 2              | OK
		Victims             | 0 1 2 4 5 3
		states              | xxxxxxfs`)
	plays(t, "P10.11: just half", made(t, 4, 100), `
		Reserve 50          | 0.0 OK
		Reserve 50          | 0.50 OK
		Settle 0 0 50 1     | OK
		Settle 0 50 50 0    | OK
		Reserve 51          | 1.0 OK
		Settle 1 0 51 1     | OK
		Reserve 50          | 2.0 OK
		Settle 2 0 50 1     | OK
		Victims             | 0
		Seal                | -
		Victims             | 0 2
		ReserveDest 1       | 3.0 OK
		Settle 3 0 1 1      | OK
		Victims             | 0 2
		Finish              | -
		states              | xxxo
		Victims             | 0 2`)
	all := everyState(t)
	all.Settle(api.Place{}, 60, false)
	all.Settle(api.Place{Seg: 1}, 60, false)
	all.Settle(api.Place{Seg: 4}, 60, false)
	is(t, "P10.11: every state", listed(all.Victims()), "0")
}

// P10.11: many, of few lengths of Live: of equal ones by number.
func TestVictimsMany(t *testing.T) {
	x := dice(1011)
	a := made(t, 64, 64)
	numbers := make([]string, 5)
	for i := range 63 {
		lives := x.throw(5)
		a.Reserve(60)
		a.Settle(api.Place{Seg: i}, 60, false)
		if lives > 0 {
			a.Reserve(lives)
			a.Settle(api.Place{Seg: i, Off: 60}, lives, true)
		}
		numbers[lives] += " " + strconv.Itoa(i)
	}
	a.Seal()
	is(t, "P10.11: many", " "+listed(a.Victims()), strings.Join(numbers, ""))
}

// P10.12: each reason alone, and two at once.
func TestFree(t *testing.T) {
	a := everyState(t)
	plays(t, "P10.12: ErrSeg", a, `
		Free -1             | ErrSeg
		Free 5              | ErrSeg
		Free max            | ErrSeg
		Free min            | ErrSeg
		Free 1              | ErrSeg
		Free 2              | ErrSeg
		Free 3              | ErrSeg
		Free 4              | ErrSeg
		Settle 1 0 60 1     | OK
		Hold 1              | OK
		Free 1              | ErrSeg
		Hold 4              | OK
		Free 4              | ErrSeg`)
	plays(t, "P10.12: ErrHeld and ErrLive", made(t, 3, 100), `
		Reserve 10          | 0.0 OK
		Reserve 10          | 0.10 OK
		Seal                | -
		Free 0              | ErrHeld
		Settle 0 0 10 1     | OK
		Free 0              | ErrHeld
		Hold 0              | OK
		Free 0              | ErrHeld
		Settle 0 10 10 0    | OK
		Free 0              | ErrHeld
		Let 0               | OK
		Free 0              | ErrLive
		Dead 0 0 10         | OK
		Hold 0              | OK
		Free 0              | ErrHeld
		Hold 0              | OK
		Let 0               | OK
		Free 0              | ErrHeld
		Let 0               | OK
		Free 0              | OK
		segments            | f0 0 0 0, f0 0 0 0, s0 0 0 0
		Free 0              | ErrSeg`)
	plays(t, "P10.12: one byte that lives", made(t, 3, 100), `
		Reserve 1           | 0.0 OK
		Settle 0 0 1 1      | OK
		Seal                | -
		Free 0              | ErrLive
		Dead 0 0 1          | OK
		Free 0              | OK`)
}

// P10.12: a freed segment is the spare, if there is none, and has no bytes.
func TestFreed(t *testing.T) {
	a := made(t, 4, 100)
	plays(t, "P10.12", a, `
		Reserve 60          | 0.0 OK
		Write 0 0 60 1      | OK
		Settle 0 0 60 0     | OK
		Reserve 60          | 1.0 OK
		Settle 1 0 60 0     | OK
		Reserve 60          | 2.0 OK
		Settle 2 0 60 0     | OK
		Seal                | -
		states              | xxxs
		Free 1              | OK
		states              | xfxs
		ReserveDest 10      | 3.0 OK
		states              | xfxm
		Free 0              | OK
		states              | sfxm
		Free 2              | OK
		states              | sffm
		bytes 0             |
		Read 0 0 1          | ErrRoom
		Read 0 0 0          | OK
		Hold 0              | ErrSeg
		Write 0 0 0 0       | ErrRoom
		segments            | s0 0 0 0, f0 0 0 0, f0 0 0 0, m10 0 1 0`)
}

// P10.13: with and without the mover's, an open one, a spare, a free one: each of them.
func TestFinish(t *testing.T) {
	for _, x := range []struct{ lines, was, is string }{
		{``, "fffs", "fffs"},
		{`
		Reserve 10          | 0.0 OK`, "offs", "offs"},
		{`
		ReserveDest 10      | 3.0 OK`, "fffm", "sffo"},
		{`
		Reserve 10          | 0.0 OK
		ReserveDest 10      | 3.0 OK`, "offm", "osfx"},
		{`
		Reserve 10          | 0.0 OK
		Reserve 100         | 1.0 OK
		Reserve 100         | 2.0 OK
		ReserveDest 10      | 3.0 OK`, "xxom", "xxox"},
		{`
		Reserve 10          | 0.0 OK
		Reserve 100         | 1.0 OK
		Reserve 100         | 2.0 OK
		Seal                | -
		ReserveDest 10      | 3.0 OK`, "xxxm", "xxxo"},
		{`
		ReserveDest 10      | 3.0 OK
		ReserveDest 100     | 0.0 OK
		ReserveDest 100     | 1.0 OK
		Settle 0 0 100 0    | OK
		Free 0              | OK`, "smfx", "sofx"},
		{`
		ReserveDest 10      | 3.0 OK
		ReserveDest 100     | 0.0 OK
		Reserve 1           | 1.0 OK
		Settle 3 0 10 0     | OK
		Free 3              | OK`, "mofs", "xofs"},
		{`
		ReserveDest 10      | 3.0 OK
		ReserveDest 100     | 0.0 OK
		ReserveDest 100     | 1.0 OK
		ReserveDest 100     | 2.0 OK`, "xxmx", "xxox"},
	} {
		a := made(t, 4, 100)
		if x.lines != "" {
			plays(t, "P10.13: ahead of it", a, x.lines)
		}
		is(t, "P10.13: ahead of it", states(a), x.was)
		was := pictured(a)
		a.Finish()
		is(t, "P10.13: "+x.was, states(a), x.is)
		is(t, "P10.13: "+x.was, appended(was, pictured(a), "Finish", "-"), "")
		a.Finish()
		is(t, "P10.13: "+x.was+", once more", states(a), x.is)
	}
}

// P10.13: where no segment is the mover's and none is spare, a free one is spare behind it; what is handed on is open, with what is in it.
func TestFinishHandsOn(t *testing.T) {
	x := good()
	x.segs[3].State = api.SegFree
	plays(t, "P10.13: no mover's and no spare", x.taken(t, "no spare"), `
		states              | xfofx
		Finish              | -
		states              | xsofx`)
	x = good()
	x.segs[1].State, x.segs[3].State = api.SegSealed, api.SegSealed
	plays(t, "P10.13: no mover's, no spare and no free one", x.taken(t, "no spare"), `
		states              | xxoxx
		Finish              | -
		states              | xxoxx`)
	plays(t, "P10.13: the mover's goes on as the open one", made(t, 3, 100), `
		ReserveDest 10      | 2.0 OK
		Write 2 0 10 1      | OK
		Settle 2 0 10 1     | OK
		ReserveDest 10      | 2.10 OK
		Hold 2              | OK
		Finish              | -
		segments            | s0 0 0 0, f0 0 0 0, o20 10 1 1
		Reserve 80          | 2.20 OK
		Reserve 1           | 1.0 OK
		ReserveDest 1       | 0.0 OK
		segments            | m1 0 1 0, o1 0 1 0, x100 10 2 1
		Read 2 8 3          | 090a00 OK`)
}
