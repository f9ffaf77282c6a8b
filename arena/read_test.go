package arena_test

import (
	"math"
	"strconv"
	"testing"

	"gleaner/api"
	"gleaner/arena"
)

// P10.9: of none and of some, at each edge, of very great numbers, of pending bytes.
func TestRead(t *testing.T) {
	a := made(t, 3, 100)
	plays(t, "P10.9: of a segment without bytes", a, `
		Read 0 0 0          | OK
		Read 0 0 1          | ErrRoom
		Read 0 1 0          | ErrRoom
		Read 2 0 0          | OK
		Read 2 0 1          | ErrRoom`)
	plays(t, "P10.9", a, `
		Reserve 4           | 0.0 OK
		Reserve 4           | 0.4 OK
		Write 0 0 4 1       | OK
		Write 0 5 1 255     | OK
		Settle 0 0 4 0      | OK
		Read 0 0 8          | 0102030400ff0000 OK
		Read 0 0 0          | OK
		Read 0 0 1          | 01 OK
		Read 0 2 4          | 030400ff OK
		Read 0 5 1          | ff OK
		Read 0 7 1          | 00 OK
		Read 0 8 0          | OK
		Read 0 0 9          | ErrRoom
		Read 0 0 100        | ErrRoom
		Read 0 7 2          | ErrRoom
		Read 0 8 1          | ErrRoom
		Read 0 9 0          | ErrRoom
		Read 0 9 1          | ErrRoom
		Read 0 100 0        | ErrRoom
		Read 0 101 0        | ErrRoom
		Read 0 -1 0         | ErrRoom
		Read 0 -1 1         | ErrRoom
		Read 0 -1 2         | ErrRoom
		Read 0 0 -1         | ErrRoom
		Read 0 8 -1         | ErrRoom
		Read 0 9 -1         | ErrRoom
		Read 0 4 -4         | ErrRoom`)
	plays(t, "P10.9: no such segment", a, `
		Read -1 0 0         | ErrRoom
		Read 3 0 0          | ErrRoom
		Read -1 0 1         | ErrRoom
		Read 3 0 1          | ErrRoom
		Read max 0 0        | ErrRoom
		Read min 0 0        | ErrRoom`)
	for _, off := range []string{"0", "1", "8", "9", "-1", "max", "min"} {
		for _, n := range []string{"max", "min", "-1", "9"} {
			is(t, "P10.9: "+off+" "+n, call(a, "Read 0 "+off+" "+n), "ErrRoom")
		}
	}
	is(t, "P10.9", call(a, "Read 0 max 0")+call(a, "Read 0 min 0")+call(a, "Read max max max"), "ErrRoomErrRoomErrRoom")
	if _, no := a.Read(api.Place{Off: 2}, math.MaxInt-1); no != api.ErrRoom {
		t.Error("P10.9: a sum that wraps:", name(no))
	}
}

// P10.9: in every state, whoever holds it or not.
func TestReadStates(t *testing.T) {
	plays(t, "P10.9", everyState(t), `
		Write 0 0 2 1       | OK
		Write 1 0 2 3       | OK
		Write 4 0 2 5       | OK
		Read 0 0 3          | 010200 OK
		Read 1 0 3          | 030400 OK
		Read 4 0 3          | 050600 OK
		Read 2 0 0          | OK
		Read 3 0 0          | OK
		Read 2 0 1          | ErrRoom
		Read 3 0 1          | ErrRoom
		Settle 0 0 60 0     | OK
		Read 0 0 60         | `+"0102"+zeros(58)+` OK
		Free 0              | OK
		Read 0 0 1          | ErrRoom`)
}

// zeros are the digits of n bytes that are 0.
func zeros(n int) string {
	out := ""
	for range n {
		out += "00"
	}
	return out
}

// filled has something of all that can be told of: rooms live, pending and dead, in three segments, in no order.
func filled(t *testing.T) *arena.Arena {
	t.Helper()
	a := made(t, 4, 100)
	plays(t, "filled", a, `
		ReserveDest 9       | 3.0 OK
		Reserve 10          | 0.0 OK
		Reserve 11          | 0.10 OK
		Reserve 12          | 0.21 OK
		Reserve 13          | 0.33 OK
		Reserve 60          | 1.0 OK
		Reserve 14          | 1.60 OK
		ReserveDest 8       | 3.9 OK
		Write 0 0 10 1      | OK
		Write 1 0 60 50     | OK
		Write 3 9 8 150     | OK
		Settle 1 60 14 1    | OK
		Settle 3 9 8 1      | OK
		Settle 0 21 12 1    | OK
		Settle 0 0 10 1     | OK
		Settle 0 33 13 0    | OK
		Hold 1              | OK
		Hold 1              | OK`)
	return a
}

// P10.14: each of them, in their order.
func TestTold(t *testing.T) {
	plays(t, "P10.14", filled(t), `
		Config              | 4 100
		segments            | x46 22 1 0, o74 14 1 2, f0 0 0 0, m17 8 1 0
		Live                | 0.0+10 0.21+12 1.60+14 3.9+8
		Pending             | 0.10+11 1.0+60 3.0+9
		bytes 0             | 0102030405060708090a`+zeros(36)+`
		bytes 2             |
		bytes 3             | `+zeros(9)+`969798999a9b9c9d
		bytes -1            |
		bytes 4             |
		bytes max           |
		bytes min           |`)
	a := made(t, 3, 100)
	for i := range 100 {
		at, _ := a.Reserve(1)
		if i%2 == 0 {
			a.Settle(at, 1, true)
		}
	}
	lives, waits := "", ""
	for i := range 50 {
		lives += " 0." + strconv.Itoa(2*i) + "+1"
		waits += " 0." + strconv.Itoa(2*i+1) + "+1"
	}
	is(t, "P10.14: many live", " "+call(a, "Live"), lives)
	is(t, "P10.14: many pending", " "+call(a, "Pending"), waits)
}

// P10.14, P10.9, P0.1: what is handed out is new memory, spare room included: writing over it shows nowhere.
func TestNewMemory(t *testing.T) {
	a := filled(t)
	was := whole(a)
	read, _ := a.Read(api.Place{Off: 5}, 20)
	other, _ := a.Read(api.Place{Off: 5}, 20)
	is(t, "P10.9", string(read), string(other))
	scribble(read)
	is(t, "P10.9: two of one place", string(other), string(a.Bytes(0)[5:25]))
	none, _ := a.Read(api.Place{Off: 5}, 0)
	scribble(none)
	for i := range 4 {
		x, y := a.Bytes(i), a.Bytes(i)
		scribble(x)
		is(t, "P10.14: two of one segment", string(y), string(a.Bytes(i)))
	}
	segs := a.Segments()
	for i := range segs[:cap(segs)] {
		segs[:cap(segs)][i] = api.Segment{State: api.SegFree, Used: 99, Live: 99, Pending: 99, Held: 99}
	}
	for _, list := range [][]api.Room{a.Live(), a.Pending()} {
		for i := range list[:cap(list)] {
			list[:cap(list)][i] = room(2, 2, 2)
		}
	}
	a.Settle(api.Place{Off: 10}, 11, false)
	a.Seal()
	victims := a.Victims()
	is(t, "P10.11", listed(victims), "0")
	for i := range victims[:cap(victims)] {
		victims[:cap(victims)][i] = 7
	}
	is(t, "P10.11: once more", listed(a.Victims()), "0")
	b := filled(t)
	is(t, "P10.14: another one", whole(b), was)
	b.Settle(api.Place{Off: 10}, 11, false)
	b.Seal()
	is(t, "P10.14: behind all that", whole(a), whole(b))
}

// P10.14: what was handed out stays as it was, whatever becomes of the arena.
func TestToldStays(t *testing.T) {
	a := filled(t)
	segs, live, pending, bytes := a.Segments(), a.Live(), a.Pending(), a.Bytes(1)
	read, _ := a.Read(api.Place{Seg: 1}, 60)
	was := rooms(live) + rooms(pending) + string(bytes) + string(read) + strconv.Itoa(segs[1].Used)
	plays(t, "P10.14", a, `
		Write 1 0 60 99     | OK
		Reserve 20          | 1.74 OK
		Write 1 74 20 1     | OK
		Settle 1 0 60 1     | OK
		Dead 1 60 14        | OK
		Settle 0 10 11 1    | OK`)
	is(t, "P10.14", rooms(live)+rooms(pending)+string(bytes)+string(read)+strconv.Itoa(segs[1].Used), was)
}

// P0.1: what only looks changes nothing.
func TestLooking(t *testing.T) {
	a := filled(t)
	was := whole(a)
	for _, asked := range []string{"Read 0 0 46", "Victims", "Config", "segments", "bytes 0", "bytes 9", "Live", "Pending"} {
		call(a, asked)
		is(t, "P0.1: "+asked, whole(a), was)
	}
}
