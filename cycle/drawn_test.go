package cycle_test

import (
	"strconv"
	"strings"
	"testing"

	"gleaner/api"
)

// drawing is a game of drawn calls on a store's parts and on the plain ones.
type drawing struct {
	some    dice
	size    int    // of a segment
	letters string // of the objects
	plain   *plain
}

// pool are words of some objects, of which each has kids among those ahead of it, if any.
func pool(some *dice, size, count int) []string {
	all := []byte("ABCDEFGHIJKLMNOPQRSTUVWXYZabcdefghijklmnopqrstuvwxyz")
	var out []string
	for i := range count {
		j := i + some.throw(len(all)-i)
		all[i], all[j] = all[j], all[i]
		most := min(4, (size-30)/45)
		if i == 0 || most < 1 || some.throw(5) < 2 {
			out = append(out, string(all[i])+strconv.Itoa(13+some.throw(size/4)))
			continue
		}
		var kids []string
		for range 1 + some.throw(most) {
			kids = append(kids, string(all[some.throw(i)]))
		}
		ends := []string{"()", "[]", "{}"}[some.throw(3)]
		out = append(out, string(all[i])+ends[:1]+strings.Join(kids, ",")+ends[1:])
	}
	return out
}

func (d *drawing) word() string {
	i := d.some.throw(len(d.letters))
	return d.letters[i : i+1]
}

// laid is the word of bytes that are mostly a record.
func (d *drawing) laid() string {
	switch d.some.throw(40) {
	case 0:
		return d.word() + "!" + strconv.Itoa(d.some.throw(13))
	case 1:
		return d.word() + "?"
	}
	return d.word()
}

// entry is the word of a key that the index has, if there is any.
func (d *drawing) entry() string {
	if n := len(d.plain.x.in); n > 0 && d.some.throw(8) > 0 {
		return word(d.plain.x.in[d.some.throw(n)].Key)
	}
	return d.word()
}

// room is one of a list, at times with another size.
func (d *drawing) room(list []api.Room) string {
	if len(list) == 0 {
		return "0.0+10"
	}
	r := list[d.some.throw(len(list))]
	if d.some.throw(20) == 0 {
		r.Size++
	}
	return roomed([]api.Room{r})
}

func (d *drawing) seg() string {
	if len(d.plain.row) > 0 && d.some.throw(3) > 0 {
		return strconv.Itoa(d.plain.row[0])
	}
	return strconv.Itoa(d.some.throw(len(d.plain.a.segs)))
}

func (d *drawing) name() string { return []string{"a", "aa", "b/0", "c", "zz"}[d.some.throw(5)] }

// session is a number; the last ones and the first ones come often.
func (d *drawing) session() string {
	return []string{"0", "1", "7", "14", "15", strconv.Itoa(d.some.throw(16))}[d.some.throw(6)]
}

// space is a line that changes the arena or the index alone.
func (d *drawing) space() string {
	switch n := d.some.throw(40); {
	case n < 8:
		return "old " + d.laid()
	case n < 9:
		return "lay " + d.laid()
	case n < 11:
		return "waste " + d.laid()
	case n < 12:
		return "reserve " + strconv.Itoa(1+d.some.throw(d.size/3))
	case n < 18:
		return []string{"live ", "lost ", "lost "}[d.some.throw(3)] + d.room(d.plain.a.Pending())
	case n < 22:
		return "hold " + d.seg()
	case n < 27:
		return "let " + d.seg()
	case n < 29:
		return "seal"
	case n < 33:
		return "sweep " + d.entry()
	case n < 34:
		return "del " + d.entry()
	case n < 35:
		return "enter " + d.word() + "=" + d.room(d.plain.a.Live())
	}
	return "mark " + strconv.Itoa(int(d.plain.epoch)-d.some.throw(2)) + " " + d.entry()
}

// change is a line of what others do.
func (d *drawing) change() string {
	switch n := d.some.throw(40); {
	case n < 10:
		return "put " + d.laid()
	case n < 20:
		return d.space()
	case n < 24:
		return "root " + d.name() + " " + d.entry()
	case n < 26:
		return "drop " + d.name()
	case n < 28:
		return "open " + d.session()
	case n < 29:
		return "close " + d.session()
	}
	return "pin " + d.session() + " " + d.entry()
}

// line is one that call does.
func (d *drawing) line() string {
	switch n := d.some.throw(100); {
	case n == 0 && d.some.throw(6) == 0:
		return "New " + []string{"0", "7", "4294967294", "greatest"}[d.some.throw(4)]
	case len(d.plain.written) > 0 && d.plain.phase == api.Move && n < 6:
		return []string{"sweep ", "del "}[n%2] + word(d.plain.key)
	case n < 24 || d.plain.phase == api.Rest && n < 70:
		return d.change()
	case n < 30 || d.plain.phase == api.Rest && n < 74:
		return "Touch " + d.entry()
	case n < 32 || d.plain.phase == api.Rest && n < 76:
		return "Born " + d.entry()
	case n < 38 || d.plain.phase == api.Rest && n < 78:
		return "Help"
	case n < 39 || d.plain.phase == api.Rest && n < 98:
		return "Begin"
	case !d.plain.Ready() && d.plain.phase == api.Move && n < 80:
		return "let " + d.seg()
	}
	return "Act"
}

// stand is what a kind is told by.
type stand struct {
	plain
	entries, marked, greys int
}

func (d *drawing) stand() stand {
	s := stand{plain: *d.plain, entries: len(d.plain.x.in), greys: len(d.plain.list)}
	for _, at := range d.plain.x.in {
		if at.Entry.Mark == s.epoch {
			s.marked++
		}
	}
	return s
}

// kind is that of a line, by what it did.
func kind(line, answer string, was, is stand) string {
	what, _, _ := strings.Cut(line, " ")
	switch what {
	case "Act":
		return phase(was.phase) + ": " + acting(was, is)
	case "Help", "Begin":
		return what + " in " + phase(was.phase) + ": " + answer
	case "Touch", "Born":
		return what + " in " + phase(was.phase) + ": " + strconv.Itoa(is.marked-was.marked) + " " + strconv.Itoa(is.greys-was.greys)
	}
	return what
}

// acting is what an act did.
func acting(was, is stand) string {
	touched := strconv.Itoa(is.marked - was.marked)
	switch {
	case was.phase != is.phase:
		return "over"
	case len(is.names) > len(was.names):
		return "a root, " + touched
	case was.phase == api.Scan && was.stage == 0:
		return "the roots' none"
	case was.phase == api.Scan && is.stage > was.stage:
		return "a session's none"
	case was.phase == api.Scan:
		return "a pin, " + touched
	case is.errs > was.errs:
		return "an error"
	case was.phase == api.Trace && is.greys < was.greys:
		return "taken off"
	case was.phase == api.Trace:
		return "a kid, " + touched
	case was.phase == api.Sweep:
		return strconv.Itoa(is.entries-was.entries) + " entries"
	case is.moved > was.moved:
		return "the turn"
	case len(was.written) > len(is.written):
		return "the turn, else"
	case is.freed > was.freed:
		return "freed"
	case is.left > was.left:
		return "given up"
	case len(is.written) > 0:
		return "written"
	case is.off > was.off:
		return "passed over"
	}
	return "nothing"
}

// often are the kinds that are to be met.
var often = []string{
	"New", "put", "old", "lay", "waste", "reserve", "live", "lost", "hold", "let", "seal", "sweep", "del", "enter", "mark", "root", "drop", "open", "close", "pin",
	"Begin in Rest: OK", "Begin in Rest: ErrEpoch", "Begin in Scan: ErrState", "Begin in Trace: ErrState", "Begin in Sweep: ErrState", "Begin in Move: ErrState",
	"Touch in Rest: 0 0", "Touch in Scan: 0 0", "Touch in Scan: 1 1", "Touch in Trace: 0 0", "Touch in Trace: 1 1", "Touch in Sweep: 0 0", "Touch in Sweep: 1 0", "Touch in Move: 0 0", "Touch in Move: 1 0",
	"Born in Rest: 0 0", "Born in Scan: 0 1", "Born in Trace: 0 1", "Born in Sweep: 0 0", "Born in Move: 0 0",
	"Help in Rest: false-OK", "Help in Scan: false-OK", "Help in Trace: true-OK", "Help in Trace: false-OK", "Help in Trace: true-ErrGone", "Help in Trace: true-ErrBroken", "Help in Sweep: false-OK", "Help in Move: false-OK",
	"Rest: nothing", "Scan: a root, 0", "Scan: a root, 1", "Scan: the roots' none", "Scan: a pin, 0", "Scan: a pin, 1", "Scan: a session's none", "Scan: over",
	"Trace: a kid, 0", "Trace: a kid, 1", "Trace: taken off", "Trace: an error", "Trace: over", "Sweep: 0 entries", "Sweep: -1 entries", "Sweep: over",
	"Move: written", "Move: the turn", "Move: the turn, else", "Move: passed over", "Move: freed", "Move: given up", "Move: nothing", "Move: over",
}

// newDrawing is a game, and the two worlds that it is played on.
func newDrawing(t *testing.T, game int) (*drawing, *world, *world) {
	some := dice(1900 + game%12) // the objects of twelve pools, so that their keys need not be sought each time
	c := api.Config{Segs: 3 + some.throw(8), Size: []int{64, 150, 400, 1000}[game%4]}
	words := pool(&some, c.Size, []int{6, 16, 40}[game%3])
	s, p := made(t, c, 0), newPlain(c, 0)
	d := &drawing{some: dice(19000 + game), size: c.Size}
	for _, w := range words {
		call(s, "name "+w)
		call(p, "name "+w)
		d.letters += w[:1]
	}
	return d, s, p
}

// P19.1 to P19.8: drawn calls of the collector, and of others that use its parts beside it; each answer, and all that is to be seen, held against a plain collector over plain lists.
func TestDrawn(t *testing.T) {
	met := map[string]int{}
	for game := range 180 {
		d, s, p := newDrawing(t, game)
		for n := range 500 {
			d.plain = p.c.(*plain)
			line, was := d.line(), d.stand()
			label := "game " + strconv.Itoa(game) + ", call " + strconv.Itoa(n) + ": " + line
			answer := call(p, line)
			is(t, label, call(s, line), answer)
			is(t, label+": the scene", scene(s), scene(p))
			met[kind(line, answer, was, d.stand())]++
			if t.Failed() {
				return
			}
		}
	}
	for _, w := range often {
		if met[w] < 20 {
			t.Errorf("drawn: %s: %d times", w, met[w])
		}
	}
}
