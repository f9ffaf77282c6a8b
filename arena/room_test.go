package arena_test

import (
	"strconv"
	"testing"

	"gleaner/api"
)

// P10.5: into a room's beginning, middle and end; of none, of one too many, across two rooms, ahead of one, into settled ones.
func TestWrite(t *testing.T) {
	a := made(t, 3, 100)
	plays(t, "P10.5: one room", a, `
		Write 0 0 0 0       | ErrRoom
		Write 0 0 1 0       | ErrRoom
		Reserve 8           | 0.0 OK
		Write 0 0 2 1       | OK
		Write 0 3 2 160     | OK
		Write 0 6 2 240     | OK
		bytes 0             | 010200a0a100f0f1
		Write 0 0 8 17      | OK
		bytes 0             | 1112131415161718
		Write 0 7 1 0       | OK
		Write 0 7 2 0       | ErrRoom
		Write 0 0 9 0       | ErrRoom
		Write 0 8 1 0       | ErrRoom
		Write 0 4 5 0       | ErrRoom
		Write 0 0 101 0     | ErrRoom
		Write 0 0 0 0       | OK
		Write 0 5 0 0       | OK
		Write 0 8 0 0       | OK
		Write 0 9 0 0       | ErrRoom
		Write 0 9 1 0       | ErrRoom
		Write 0 -1 0 0      | ErrRoom
		Write 0 -1 1 0      | ErrRoom
		Write 0 -1 2 0      | ErrRoom
		bytes 0             | 1112131415161700`)
	plays(t, "P10.5: no such place", a, `
		Write -1 0 0 0      | ErrRoom
		Write -1 0 1 0      | ErrRoom
		Write 1 0 0 0       | ErrRoom
		Write 1 0 1 0       | ErrRoom
		Write 2 0 0 0       | ErrRoom
		Write 3 0 0 0       | ErrRoom
		Write 3 0 1 0       | ErrRoom
		Write max 0 1 0     | ErrRoom
		Write min 0 1 0     | ErrRoom
		Write 0 max 0 0     | ErrRoom
		Write 0 max 1 0     | ErrRoom
		Write 0 min 0 0     | ErrRoom
		Write 0 min 1 0     | ErrRoom
		Write max max 0 0   | ErrRoom`)
}

// P10.5: rooms side by side: no write goes across; at the place where two meet, none can be written if either is pending.
func TestWriteSideBySide(t *testing.T) {
	a := made(t, 3, 100)
	plays(t, "P10.5: three pending", a, `
		Reserve 4           | 0.0 OK
		Reserve 4           | 0.4 OK
		Reserve 4           | 0.8 OK
		Write 0 0 4 1       | OK
		Write 0 4 4 33      | OK
		Write 0 8 4 65      | OK
		bytes 0             | 010203042122232441424344
		Write 0 0 5 0       | ErrRoom
		Write 0 3 2 0       | ErrRoom
		Write 0 2 8 0       | ErrRoom
		Write 0 0 12 0      | ErrRoom
		Write 0 4 5 0       | ErrRoom
		Write 0 7 2 0       | ErrRoom
		Write 0 4 0 0       | OK
		Write 0 8 0 0       | OK
		Write 0 12 0 0      | OK
		Write 0 13 0 0      | ErrRoom`)
	plays(t, "P10.5: the middle one is settled", a, `
		Settle 0 4 4 1      | OK
		Write 0 3 1 9       | OK
		Write 0 3 2 9       | ErrRoom
		Write 0 4 0 9       | OK
		Write 0 4 1 9       | ErrRoom
		Write 0 5 0 9       | ErrRoom
		Write 0 5 1 9       | ErrRoom
		Write 0 7 0 9       | ErrRoom
		Write 0 7 1 9       | ErrRoom
		Write 0 7 2 9       | ErrRoom
		Write 0 8 0 9       | OK
		Write 0 8 1 9       | OK
		bytes 0             | 010203092122232409424344`)
	plays(t, "P10.5: the first one, too, and the middle one is dead", a, `
		Dead 0 4 4          | OK
		Settle 0 0 4 0      | OK
		Write 0 0 0 9       | ErrRoom
		Write 0 0 1 9       | ErrRoom
		Write 0 3 1 9       | ErrRoom
		Write 0 4 0 9       | ErrRoom
		Write 0 4 1 9       | ErrRoom
		Write 0 7 0 9       | ErrRoom
		Write 0 8 0 9       | OK
		Write 0 11 1 9      | OK
		Settle 0 8 4 0      | OK
		Write 0 8 0 9       | ErrRoom
		Write 0 12 0 9      | ErrRoom
		Write 0 11 1 9      | ErrRoom
		bytes 0             | 010203092122232409424309`)
	plays(t, "P10.5: ahead of the only one that is pending", a, `
		Reserve 4           | 0.12 OK
		Write 0 11 1 9      | ErrRoom
		Write 0 11 2 9      | ErrRoom
		Write 0 11 0 9      | ErrRoom
		Write 0 12 0 9      | OK
		Write 0 12 4 1      | OK
		Seal                | -
		Write 0 13 2 100    | OK
		Read 0 11 5         | 0901646504 OK`)
}

// P10.5: every place and length in and around three pending rooms of four, of which some are settled: held against the chapter's words.
func TestWriteEverywhere(t *testing.T) {
	for settled := range 8 {
		a := made(t, 3, 64)
		pending := func(off int) bool { return off >= 0 && off < 3 && settled&(1<<off) == 0 }
		for i := range 3 {
			a.Reserve(4)
			if !pending(i) {
				a.Settle(api.Place{Off: 4 * i}, 4, i%2 == 0)
			}
		}
		for off := -2; off < 15; off++ {
			for n := range 15 {
				want := "ErrRoom"
				for i := range 3 {
					if pending(i) && off >= 4*i && off+n <= 4*i+4 {
						want = "OK"
					}
				}
				was := a.Bytes(0)
				fill := 16*off + n
				is(t, "P10.5: "+strconv.Itoa(settled)+": "+line("Write", 0, off, n, fill), call(a, line("Write", 0, off, n, fill)), want)
				if want == "OK" {
					copy(was[off:], rising(n, fill))
				}
				is(t, "P10.5: the bytes behind it", string(a.Bytes(0)), string(was))
			}
		}
	}
}

// P10.5: what is pending stays so in a sealed segment and in the mover's, and when that is handed on.
func TestWriteStates(t *testing.T) {
	plays(t, "P10.5", made(t, 4, 100), `
		Reserve 60          | 0.0 OK
		Reserve 60          | 1.0 OK
		ReserveDest 60      | 3.0 OK
		Write 0 59 1 1      | OK
		Write 1 59 1 2      | OK
		Write 3 59 1 3      | OK
		ReserveDest 60      | 2.0 OK
		Write 3 58 2 3      | OK
		Finish              | -
		states              | xoxx
		Write 2 59 1 4      | OK
		Write 2 60 1 4      | ErrRoom
		Read 2 58 2         | 0004 OK
		Read 3 58 2         | 0304 OK`)
}

// P10.5, P0.1: what is written is not changed and not kept.
func TestWriteApart(t *testing.T) {
	a := made(t, 3, 100)
	a.Reserve(6)
	data := roomy([]byte("abcd"))
	is(t, "P10.5", name(a.Write(api.Place{Off: 1}, data)), "OK")
	if !untouched(data, []byte("abcd")) {
		t.Error("P0.1: Write changed what it was handed")
	}
	scribble(data)
	is(t, "P10.5: behind it", string(a.Bytes(0)), "\x00abcd\x00")
	is(t, "P10.5: nil", name(a.Write(api.Place{Off: 6}, nil)), "OK")
	is(t, "P10.5: empty", name(a.Write(api.Place{Off: 7}, []byte{})), "ErrRoom")
	// What is read can be written again, and is not bound to where it came from.
	b, _ := a.Read(api.Place{Off: 1}, 4)
	a.Write(api.Place{Off: 2}, b)
	is(t, "P10.5: what was read", string(a.Bytes(0)), "\x00aabcd")
	is(t, "P10.9: what was read", string(b), "abcd")
}

// P10.6: just the place and size, another place, another size, twice; live and not live.
func TestSettle(t *testing.T) {
	a := made(t, 3, 100)
	plays(t, "P10.6", a, `
		Settle 0 0 1 1      | ErrRoom
		Settle 0 0 0 1      | ErrRoom
		Settle 0 0 0 0      | ErrRoom
		Reserve 10          | 0.0 OK
		Reserve 20          | 0.10 OK
		Reserve 5           | 0.30 OK
		Settle 0 0 9 1      | ErrRoom
		Settle 0 0 11 1     | ErrRoom
		Settle 0 0 0 1      | ErrRoom
		Settle 0 0 -10 1    | ErrRoom
		Settle 0 0 30 1     | ErrRoom
		Settle 0 0 20 1     | ErrRoom
		Settle 0 1 9 1      | ErrRoom
		Settle 0 1 10 1     | ErrRoom
		Settle 0 10 10 1    | ErrRoom
		Settle 0 35 0 0     | ErrRoom
		Settle 1 0 10 1     | ErrRoom
		Settle -1 0 10 1    | ErrRoom
		Settle 3 0 10 0     | ErrRoom
		Settle max max max 0 | ErrRoom
		Settle min min min 1 | ErrRoom
		segments            | o35 0 3 0, f0 0 0 0, s0 0 0 0
		Settle 0 10 20 1    | OK
		segments            | o35 20 2 0, f0 0 0 0, s0 0 0 0
		Live                | 0.10+20
		Pending             | 0.0+10 0.30+5
		Settle 0 10 20 1    | ErrRoom
		Settle 0 10 20 0    | ErrRoom
		Settle 0 0 10 0     | OK
		segments            | o35 20 1 0, f0 0 0 0, s0 0 0 0
		Settle 0 0 10 0     | ErrRoom
		Settle 0 0 10 1     | ErrRoom
		Live                | 0.10+20
		Pending             | 0.30+5
		Settle 0 30 5 1     | OK
		Live                | 0.10+20 0.30+5
		Pending             |
		segments            | o35 25 0 0, f0 0 0 0, s0 0 0 0`)
	plays(t, "P10.6: in other segments", a, `
		ReserveDest 7       | 2.0 OK
		Seal                | -
		Reserve 9           | 1.0 OK
		Settle 1 0 7 1      | ErrRoom
		Settle 2 0 9 1      | ErrRoom
		Settle 1 0 9 1      | OK
		Seal                | -
		Settle 2 0 7 1      | OK
		segments            | x35 25 0 0, x9 9 0 0, m7 7 0 0`)
}

// P10.7: just the place and size, another place, another size, twice, and what is not live.
func TestDead(t *testing.T) {
	a := made(t, 3, 100)
	plays(t, "P10.7", a, `
		Dead 0 0 0          | ErrRoom
		Dead 0 0 1          | ErrRoom
		Reserve 10          | 0.0 OK
		Reserve 20          | 0.10 OK
		Reserve 5           | 0.30 OK
		Dead 0 0 10         | ErrRoom
		Settle 0 0 10 1     | OK
		Settle 0 10 20 1    | OK
		Settle 0 30 5 0     | OK
		Dead 0 30 5         | ErrRoom
		Dead 0 0 9          | ErrRoom
		Dead 0 0 11         | ErrRoom
		Dead 0 0 0          | ErrRoom
		Dead 0 0 -10        | ErrRoom
		Dead 0 0 30         | ErrRoom
		Dead 0 1 9          | ErrRoom
		Dead 0 1 10         | ErrRoom
		Dead 1 0 10         | ErrRoom
		Dead -1 0 10        | ErrRoom
		Dead 3 0 10         | ErrRoom
		Dead max max max    | ErrRoom
		Dead min min min    | ErrRoom
		segments            | o35 30 0 0, f0 0 0 0, s0 0 0 0
		Dead 0 0 10         | OK
		segments            | o35 20 0 0, f0 0 0 0, s0 0 0 0
		Live                | 0.10+20
		Dead 0 0 10         | ErrRoom
		Settle 0 0 10 1     | ErrRoom
		Dead 0 10 20        | OK
		segments            | o35 0 0 0, f0 0 0 0, s0 0 0 0
		Live                |`)
	plays(t, "P10.7: what a segment held that was freed", a, `
		Seal                | -
		Free 0              | OK
		Dead 0 0 10         | ErrRoom
		Reserve 10          | 0.0 OK
		Dead 0 0 10         | ErrRoom
		Settle 0 0 10 1     | OK
		Dead 0 0 10         | OK`)
}

// P10.6, P10.7: settling and dying leave the bytes as they are.
func TestSettledBytes(t *testing.T) {
	plays(t, "P10.16", made(t, 3, 100), `
		Reserve 3           | 0.0 OK
		Reserve 3           | 0.3 OK
		Write 0 0 3 1       | OK
		Write 0 3 3 4       | OK
		Settle 0 0 3 1      | OK
		Settle 0 3 3 0      | OK
		bytes 0             | 010203040506
		Dead 0 0 3          | OK
		bytes 0             | 010203040506
		Reserve 1           | 0.6 OK
		bytes 0             | 01020304050600`)
}
