package cycle_test

import (
	"iter"
	"strconv"
	"strings"
	"testing"

	"gleaner/api"
	"gleaner/arena"
	"gleaner/cycle"
	"gleaner/index"
	"gleaner/pins"
	"gleaner/roots"
)

// calls is all that a collector can be asked.
type calls interface {
	Touch(k api.Key)
	Born(k api.Key)
	Begin() api.Errno
	Ready() bool
	Act() (bool, api.Errno)
	Help() (bool, api.Errno)
	Phase() api.Phase
	Epoch() uint32
	Grey() []api.Grey
}

// memory is what others ask of an arena.
type memory interface {
	Reserve(size int) (api.Place, api.Errno)
	Write(at api.Place, data []byte) api.Errno
	Settle(at api.Place, size int, live bool) api.Errno
	Dead(at api.Place, size int) api.Errno
	Hold(seg int) api.Errno
	Let(seg int) api.Errno
	Read(at api.Place, n int) ([]byte, api.Errno)
	Seal()
	Segments() []api.Segment
	Bytes(seg int) []byte
	Live() []api.Room
	Pending() []api.Room
}

// entries is what others ask of an index.
type entries interface {
	Get(k api.Key) (api.Entry, bool)
	Put(k api.Key, e api.Entry) bool
	Mark(k api.Key, epoch uint32) bool
	Move(k api.Key, from, to api.Place) bool
	Del(k api.Key) (api.Entry, bool)
	All() iter.Seq2[api.Key, api.Entry]
}

// names is what others ask of a table of roots.
type names interface {
	Set(name string, k api.Key) api.Errno
	Drop(name string) api.Errno
	All() []api.Root
}

// sessions is what others ask of the sessions.
type sessions interface {
	Open(s int) api.Errno
	Close(s int) api.Errno
	Pin(s int, k api.Key) api.Errno
	Enter(s int) api.Errno
	Leave(s int) api.Errno
	Sessions() []api.Session
}

// world is a collector and its four parts, as others use them beside it: the store's, or the plain ones of plain_test.go.
type world struct {
	c    calls
	a    memory
	x    entries
	r    names
	p    sessions
	anew func(epoch uint32) calls // a new collector over the parts

	words map[byte]api.Object // what a letter stands for
}

// parts are the four that New is handed.
type parts struct {
	a *arena.Arena
	x *index.Index
	r *roots.Roots
	p *pins.Pins
}

func newParts(t *testing.T, c api.Config) parts {
	t.Helper()
	a, no := arena.New(c)
	is(t, "an arena", no, api.OK)
	return parts{a, index.New(), roots.New(), pins.New()}
}

// over is a collector over parts, and these as a world.
func over(p parts, epoch uint32) *world {
	w := &world{a: p.a, x: p.x, r: p.r, p: p.p, words: map[byte]api.Object{}}
	w.anew = func(epoch uint32) calls { return cycle.New(p.a, p.x, p.r, p.p, epoch) }
	w.c = w.anew(epoch)
	return w
}

// made is a collector over new parts.
func made(t *testing.T, c api.Config, epoch uint32) *world {
	t.Helper()
	return over(newParts(t, c), epoch)
}

// is holds two answers against one another.
func is[T comparable](t *testing.T, what string, got, want T) {
	t.Helper()
	if got != want {
		t.Errorf("%s:\n got %v\nwant %v", what, got, want)
	}
}

// code is an error's word.
func code(no api.Errno) string {
	switch no {
	case api.OK:
		return "OK"
	case api.ErrNil:
		return "ErrNil"
	case api.ErrState:
		return "ErrState"
	case api.ErrFull:
		return "ErrFull"
	case api.ErrRoom:
		return "ErrRoom"
	case api.ErrSeg:
		return "ErrSeg"
	case api.ErrHeld:
		return "ErrHeld"
	case api.ErrRoot:
		return "ErrRoot"
	case api.ErrSession:
		return "ErrSession"
	case api.ErrOpen:
		return "ErrOpen"
	case api.ErrBroken:
		return "ErrBroken"
	case api.ErrGone:
		return "ErrGone"
	case api.ErrEpoch:
		return "ErrEpoch"
	}
	return no.Error()
}

// phase is a phase's word.
func phase(p api.Phase) string {
	if p > api.Move {
		return "no phase"
	}
	return []string{"Rest", "Scan", "Trace", "Sweep", "Move"}[p]
}

func number(word string) int {
	n, err := strconv.Atoi(word)
	if err != nil {
		panic(err)
	}
	return n
}

// epoch is the one of a word; greatest is that of all.
func epoch(word string) uint32 {
	if word == "greatest" {
		return api.MaxEpoch
	}
	return uint32(number(word))
}

// place is that of a word of two numbers.
func place(word string) api.Place {
	seg, off, _ := strings.Cut(word, ".")
	return api.Place{Seg: number(seg), Off: number(off)}
}

func placed(at api.Place) string { return strconv.Itoa(at.Seg) + "." + strconv.Itoa(at.Off) }

// room is that of a word: a place and a size.
func room(word string) api.Room {
	at, size, _ := strings.Cut(word, "+")
	return api.Room{Place: place(at), Size: number(size)}
}

func roomed(list []api.Room) string {
	var out []string
	for _, r := range list {
		out = append(out, placed(r.Place)+"+"+strconv.Itoa(r.Size))
	}
	return strings.Join(out, " ")
}

// greyed are the words of a work list, from its beginning on.
func greyed(list []api.Grey) string {
	var out []string
	for _, g := range list {
		out = append(out, word(g.Key)+":"+strconv.Itoa(g.Next))
	}
	return "[" + strings.Join(out, " ") + "]"
}

// listed are the words of entries, by key: place and mark.
func listed(x entries) string {
	var out []string
	for k, e := range x.All() {
		out = append(out, word(k)+"="+placed(e.Place)+"/"+strconv.FormatUint(uint64(e.Mark), 10))
	}
	return strings.Join(out, " ")
}

// booked are the words of segments: free, spare, open, sealed (x), the mover's (d), with used and live bytes, how many are pending, how many hold it.
func booked(list []api.Segment) string {
	var out []string
	for _, s := range list {
		w := "fsoxd"[s.State : s.State+1]
		if s.Used > 0 {
			w += strconv.Itoa(s.Used) + "/" + strconv.Itoa(s.Live)
		}
		w += strings.Repeat("p", s.Pending) + strings.Repeat("h", s.Held)
		out = append(out, w)
	}
	return strings.Join(out, " ")
}

func rooted(list []api.Root) string {
	var out []string
	for _, r := range list {
		out = append(out, r.Name+"="+word(r.Key))
	}
	return strings.Join(out, " ")
}

func pinned(list []api.Session) string {
	var out []string
	for _, s := range list {
		w := strconv.Itoa(s.Number) + strings.Repeat("b", s.Busy) + ":"
		for _, k := range s.Pins {
			w += word(k)
		}
		out = append(out, w)
	}
	return strings.Join(out, " ")
}

// told is all that a collector tells, and changes nothing.
func told(c calls) string {
	return phase(c.Phase()) + " " + strconv.FormatUint(uint64(c.Epoch()), 10) + " " + strconv.FormatBool(c.Ready()) + " " + greyed(c.Grey())
}

// scene is all that can be seen of a world.
func scene(w *world) string {
	var out strings.Builder
	out.WriteString(told(w.c) + "\n" + listed(w.x) + "\n" + booked(w.a.Segments()) + "\n")
	out.WriteString("sizes")
	for _, e := range w.x.All() {
		out.WriteString(" " + strconv.Itoa(e.Size))
	}
	out.WriteString("\nlive " + roomed(w.a.Live()) + "\npending " + roomed(w.a.Pending()) + "\n")
	out.WriteString(rooted(w.r.All()) + "\n" + pinned(w.p.Sessions()) + "\n")
	for i := range w.a.Segments() {
		out.WriteString(strconv.Quote(string(w.a.Bytes(i))) + "\n")
	}
	return out.String()
}

// acted does so many acts, and tells how many were alike one behind the other: by the phase behind each, and by what it answers besides false and OK.
func acted(c calls, n int) string {
	var out []string
	last, count := "", 0
	for range n {
		done, no := c.Act()
		now := phase(c.Phase())
		if done {
			now += " true"
		}
		if no != api.OK {
			now += " " + code(no)
		}
		if now != last && count > 0 {
			out, count = append(out, strconv.Itoa(count)+" "+last), 0
		}
		last, count = now, count+1
	}
	return strings.Join(append(out, strconv.Itoa(count)+" "+last), ", ")
}

// plays does lines of the form 'call | answer', one behind the other.
func plays(t *testing.T, what string, w *world, lines string) {
	t.Helper()
	for i, line := range strings.Split(strings.TrimSpace(lines), "\n") {
		ask, want, ok := strings.Cut(line, "|")
		if !ok {
			t.Fatal("no answer in the line", line)
		}
		is(t, what+": line "+strconv.Itoa(i+1)+": "+strings.TrimSpace(ask), call(w, ask), strings.TrimSpace(want))
	}
}

// usual is the size of the scripts' arenas.
var usual = api.Config{Segs: 5, Size: 200}

// both plays lines on the store's parts and on the plain ones: a line that the chapter's words do not bear out shows.
func both(t *testing.T, what, lines string) {
	t.Helper()
	bothOf(t, what, usual, lines)
}

// bothOf is both over arenas of a size.
func bothOf(t *testing.T, what string, c api.Config, lines string) {
	t.Helper()
	p, s := newPlain(c, 0), made(t, c, 0)
	plays(t, what+" (plain)", p, lines)
	plays(t, what, s, lines)
	is(t, what+": behind it all", scene(s), scene(p))
}

// dice throws numbers that look like chance and are the same in each run.
type dice uint64

func (x *dice) throw(n int) int {
	*x = *x*6364136223846793005 + 1442695040888963407
	return int(uint64(*x)>>33) % n
}
