package arena_test

import (
	"bytes"
	"slices"
	"strconv"
	"strings"
	"testing"

	"gleaner/api"
	"gleaner/arena"
)

// line joins a call's word and its numbers.
func line(word string, n ...int) string { return strings.TrimSpace(word + " " + listed(n)) }

// near is a number, or, seldom, one beside it or far from it.
func (x *dice) near(n int) int {
	if x.throw(6) > 0 {
		return n
	}
	return one(x, n-1, n+1, 0, -1, 3*n+7)
}

// room is one that there is or was, if there is any, as it stands in the plain arena.
func (x *dice) room(p *plain) plainRoom {
	if len(p.rooms) == 0 {
		return plainRoom{seg: x.throw(p.c.Segs), size: 1, what: dead}
	}
	return p.rooms[x.throw(len(p.rooms))]
}

// size is one to be reserved: mostly small, now and then what is left at the end, or near a limit.
func (x *dice) size(p *plain, end api.SegState) int {
	switch x.throw(8) {
	case 0:
		return one(x, -1, 0, 1, p.c.Size-1, p.c.Size, p.c.Size+1)
	case 1:
		for _, seg := range p.in(end) {
			return p.c.Size - p.segs[seg].used + x.throw(3) - 1
		}
	}
	return 1 + x.throw(p.c.Size/3)
}

// call is a line of any kind, mostly one that is taken.
func (x *dice) call(p *plain) string {
	r := x.room(p)
	seg := x.near(x.throw(p.c.Segs))
	switch x.throw(20) {
	case 0, 1, 2:
		return line("Reserve", x.size(p, api.SegOpen))
	case 3, 4:
		return line("ReserveDest", x.size(p, api.SegDest))
	case 5, 6, 7:
		from := x.throw(r.size + 1)
		return line("Write", x.near(r.seg), x.near(r.off+from), max(0, x.near(x.throw(r.size-from+1))), x.throw(256))
	case 8, 9, 10:
		return line("Settle", x.near(r.seg), x.near(r.off), x.near(r.size), x.throw(2))
	case 11, 12:
		return line("Dead", x.near(r.seg), x.near(r.off), x.near(r.size))
	case 13:
		return line("Hold", seg)
	case 14:
		return line("Let", seg)
	case 15, 16:
		return line("Free", seg)
	case 17:
		return line("Read", x.near(r.seg), x.near(r.off), x.near(r.size))
	case 18:
		return "Seal"
	}
	return "Finish"
}

// books tells what P10.15 says of an arena as it stands that is not so.
func books(x calls) string {
	wrong := ""
	segs := x.Segments()
	sums := make([]api.Segment, len(segs))
	taken := make([][]int, len(segs))
	for i, s := range segs {
		taken[i] = make([]int, s.Used)
	}
	take := func(r api.Room) {
		for n := range r.Size {
			if taken[r.Place.Seg][r.Place.Off+n]++; taken[r.Place.Seg][r.Place.Off+n] > 1 {
				wrong += "a byte is in two rooms; "
			}
		}
	}
	for _, r := range x.Live() {
		take(r)
		sums[r.Place.Seg].Live += r.Size
	}
	for _, r := range x.Pending() {
		take(r)
		sums[r.Place.Seg].Pending++
	}
	for i, s := range segs {
		if s.Live != sums[i].Live || s.Pending != sums[i].Pending || s.Used != len(x.Bytes(i)) {
			wrong += "the books of segment " + strconv.Itoa(i) + "; "
		}
		if (s.State == api.SegFree || s.State == api.SegSpare) && (s.Used != 0 || s.Held != 0) {
			wrong += "something in segment " + strconv.Itoa(i) + "; "
		}
	}
	for _, state := range []api.SegState{api.SegSpare, api.SegOpen, api.SegDest} {
		if strings.Count(states(x), string(letters[state])) > 1 {
			wrong += "two segments in one state; "
		}
	}
	return wrong
}

// picture is what P10.16 asks for: the used bytes, and which of them lie in pending room.
type picture struct {
	bytes   [][]byte
	pending []api.Room
}

func pictured(x calls) picture {
	var p picture
	for i := range x.Segments() {
		p.bytes = append(p.bytes, x.Bytes(i))
	}
	p.pending = x.Pending()
	return p
}

// appended tells what P10.16 says of a call that is not so: was is the picture ahead of it.
func appended(was, is picture, asked, answer string) string {
	words := strings.Fields(asked)
	freed := -1
	if words[0] == "Free" && answer == "OK" {
		freed = number(words[1])
	}
	for seg, b := range was.bytes {
		if seg == freed {
			if len(is.bytes[seg]) != 0 {
				return "a freed segment has bytes"
			}
			continue
		}
		if len(is.bytes[seg]) < len(b) {
			return "fewer used bytes"
		}
		for off := range b {
			if is.bytes[seg][off] == b[off] {
				continue
			}
			lies := func(r api.Room) bool {
				return r.Place.Seg == seg && r.Place.Off <= off && off < r.Place.Off+r.Size
			}
			if words[0] != "Write" || !slices.ContainsFunc(was.pending, lies) {
				return "byte " + strconv.Itoa(off) + " of segment " + strconv.Itoa(seg) + " has changed"
			}
		}
		if bytes.Count(is.bytes[seg][len(b):], []byte{0}) != len(is.bytes[seg])-len(b) {
			return "new room is not 0"
		}
	}
	return ""
}

// itComes tells what P10.17 says of an ErrFull that is not so.
func itComes(x calls, asked, answer string) string {
	words := strings.Fields(asked)
	if words[0] != "Reserve" || answer != "ErrFull" {
		return ""
	}
	size := x.Config().Size
	for _, s := range x.Segments() {
		if s.State == api.SegFree || s.State == api.SegOpen && size-s.Used >= number(words[1]) {
			return "there is room"
		}
	}
	return ""
}

// again is the arena that From makes of what an arena tells, if it stands so that From may take it.
func again(t *testing.T, a *arena.Arena) *arena.Arena {
	t.Helper()
	segs := a.Segments()
	for _, s := range segs {
		if s.Pending != 0 || s.Held != 0 || s.State == api.SegDest {
			return a
		}
	}
	b, no := arena.From(a.Config(), segs, pictured(a).bytes, a.Live())
	if no != api.OK {
		t.Fatalf("P10.2: From of %s: %s", whole(a), name(no))
	}
	return b
}

// P10.1 to P10.17: drawn calls, each answer and what is to be seen behind it held against the plain arena and against what comes of the promises.
func TestDrawn(t *testing.T) {
	x := dice(1015)
	seen := map[string]int{}
	for game := range 150 {
		c := api.Config{Segs: 3 + x.throw(4), Size: one(&x, 64, 65, 100, 127)}
		a, p := made(t, c.Segs, c.Size), newPlain(c)
		is(t, "P10.1: a new one", whole(a), whole(p))
		for range 300 {
			asked := x.call(p)
			was := pictured(a)
			got, want := call(a, asked), call(p, asked)
			seen[strings.Fields(asked)[0]+" "+strings.Fields(want)[0]]++
			label := "game " + strconv.Itoa(game) + ": " + asked
			is(t, label, got, want)
			is(t, label+": behind it", whole(a), whole(p))
			is(t, label+": P10.15", books(a), "")
			is(t, label+": P10.16", appended(was, pictured(a), asked, got), "")
			is(t, label+": P10.17", itComes(a, asked, got), "")
			if t.Failed() {
				return
			}
			if x.throw(20) == 0 {
				a = again(t, a)
				is(t, label+": P10.2: From of it", whole(a), whole(p))
			}
		}
	}
	for _, w := range strings.Split("Reserve ErrArg,Reserve ErrFull,ReserveDest ErrArg,ReserveDest ErrFull,Write OK,Write ErrRoom,Settle OK,Settle ErrRoom,Dead OK,Dead ErrRoom,Hold OK,Hold ErrSeg,Let OK,Let ErrSeg,Read ErrRoom,Free OK,Free ErrSeg,Free ErrHeld,Free ErrLive,Seal -,Finish -", ",") {
		if seen[w] < 50 {
			t.Errorf("%s was drawn %d times", w, seen[w])
		}
	}
}
