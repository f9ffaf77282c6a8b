package compact_test

import (
	"strconv"
	"strings"
	"testing"

	"gleaner/api"
)

// drawing is a game of drawn calls on a store and on the plain one.
type drawing struct {
	some  dice
	size  int // of a segment
	pool  int // of bodies
	plain *plain
}

// record is the word of one of the pool's.
func (d *drawing) record() string {
	n := d.some.throw(d.pool)
	long := n * 7 % (d.size/3 + 1)
	if n%11 == 0 {
		long = d.size - api.Head - n
	}
	return string(rune('a'+n%26)) + strconv.Itoa(max(long, n%3))
}

// laid is the word of bytes that are mostly a record.
func (d *drawing) laid() string {
	w := d.record()
	switch long := len(spoiled(w)); d.some.throw(60) {
	case 0:
		return w + "!" + strconv.Itoa(d.some.throw(long))
	case 1:
		return w + "<" + strconv.Itoa(1+d.some.throw(long-1))
	case 2:
		return "0*" + strconv.Itoa(1+d.some.throw(20))
	}
	return w
}

// room is one of a list, at times with another size.
func (d *drawing) room(list []api.Room) string {
	if len(list) == 0 {
		return "0.0+10"
	}
	r := list[d.some.throw(len(list))]
	if d.some.throw(20) == 0 {
		r.Size++
	}
	return roomed([]api.Room{r})
}

// place is where the mover reads, or a live room's.
func (d *drawing) place() string {
	if at := d.plain.At(); at.Seg >= 0 && d.some.throw(2) == 0 {
		return placed(at)
	}
	at, _, _ := strings.Cut(d.room(d.plain.Live()), "+")
	return at
}

func (d *drawing) seg() string {
	if at := d.plain.At(); at.Seg >= 0 && d.some.throw(3) > 0 {
		return strconv.Itoa(at.Seg)
	}
	return strconv.Itoa(d.some.throw(len(d.plain.segs)))
}

// present is the word of the record whose turn is due, or of one of the entries, if there is any.
func (d *drawing) present() string {
	if len(d.plain.written) > 0 && d.some.throw(2) == 0 {
		return word(d.plain.key)
	}
	if n := len(d.plain.in); n > 0 {
		return word(d.plain.in[d.some.throw(n)].Key)
	}
	return d.record()
}

// change is a line that changes the parts: what others do.
func (d *drawing) change() string {
	switch n := d.some.throw(40); {
	case n < 14:
		return "put " + d.laid()
	case n < 16:
		return "waste " + d.record()
	case n < 17 && d.some.throw(3) == 0:
		return "lay " + d.laid()
	case n < 18 && d.some.throw(3) == 0:
		return "reserve " + strconv.Itoa(1+d.some.throw(d.size))
	case n < 22:
		return []string{"live ", "lost ", "lost "}[d.some.throw(3)] + d.room(d.plain.Pending())
	case n < 23 && d.some.throw(3) == 0:
		return "dead " + d.room(d.plain.Live())
	case n < 25:
		return "hold " + d.seg()
	case n < 28:
		return "let " + d.seg()
	case n < 29:
		return "seal"
	case n < 35:
		return "sweep " + d.present()
	case n < 36 && d.some.throw(3) == 0:
		return "del " + d.present()
	case n < 37:
		return "enter " + d.record() + "=" + d.place() + "+10"
	case n < 39 && d.some.throw(3) == 0:
		return "move " + d.present() + " " + d.place()
	}
	return "mark " + strconv.Itoa(d.some.throw(3)) + " " + d.present()
}

// line is one that call of help_test.go does.
func (d *drawing) line() string {
	switch n := d.some.throw(150); {
	case n == 0 || d.plain.done && n < 40:
		return "New"
	case n < 50 || d.plain.done && n < 145:
		return d.change()
	case !d.plain.Ready() && n < 120:
		return "let " + strconv.Itoa(d.plain.row[0])
	case len(d.plain.written) > 0 && n < 70:
		key := word(d.plain.key)
		return []string{"sweep " + key, "del " + key, "move " + key + " " + d.place()}[n%3]
	}
	return "Act"
}

// kind is that of a line: what an act did besides.
func kind(line string, was, is plain) string {
	what, _, _ := strings.Cut(line, " ")
	switch {
	case what != "Act":
		return what
	case was.done:
		return "Act: done"
	case len(was.written) > 0 && is.moved > was.moved:
		return "Act: the turn"
	case len(was.written) > 0:
		return "Act: the turn, else"
	case is.done:
		return "Act: Finish"
	case is.freed > was.freed:
		return "Act: freed"
	case is.left > was.left && was.off == len(was.segs[was.row[0]].bytes):
		return "Act: not freed"
	case is.left > was.left && is.full > was.full:
		return "Act: no room"
	case is.left > was.left:
		return "Act: no record"
	case len(is.written) > 0:
		return "Act: written"
	case is.off > was.off:
		return "Act: passed over"
	}
	return "Act: it waits"
}

// P18.1 to P18.4: drawn calls, beside others that put, lay, settle, hold, sweep, take out, move and mark; each answer, and all that is to be seen of the mover and its parts, held against a plain mover over plain lists.
func TestDrawn(t *testing.T) {
	met := map[string]int{}
	for game := range 220 {
		d := &drawing{some: dice(1818 + game)}
		c := api.Config{Segs: 3 + d.some.throw(6), Size: 64 + d.some.throw([]int{1, 60, 900}[game%3])}
		d.size, d.pool, d.plain = c.Size, []int{4, 12, 60}[d.some.throw(3)], newPlain(c)
		s, p := made(t, c), d.plain
		call(s, "New")
		call(p, "New")
		for n := range 220 {
			was, line := *p, d.line()
			label := "game " + strconv.Itoa(game) + ", call " + strconv.Itoa(n) + ": " + line
			is(t, label, call(s, line), call(p, line))
			is(t, label+": told", told(s), told(p))
			is(t, label+": the parts", scene(s), scene(p))
			met[kind(line, was, *p)]++
			if t.Failed() {
				return
			}
		}
	}
	for _, w := range []string{"New", "put", "waste", "lay", "reserve", "live", "lost", "dead", "hold", "let", "seal", "sweep", "del", "enter", "move", "mark", "Act: done", "Act: the turn", "Act: the turn, else", "Act: Finish", "Act: freed", "Act: not freed", "Act: no room", "Act: no record", "Act: written", "Act: passed over", "Act: it waits"} {
		if met[w] < 50 {
			t.Errorf("drawn: %s: %d times", w, met[w])
		}
	}
}
