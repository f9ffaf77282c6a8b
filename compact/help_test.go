package compact_test

import (
	"bytes"
	"slices"
	"strconv"
	"strings"
	"testing"

	"gleaner/api"
	"gleaner/arena"
	"gleaner/compact"
	"gleaner/frame"
	"gleaner/index"
	"gleaner/key"
)

// calls is all that a mover can be asked.
type calls interface {
	Ready() bool
	Act() bool
	Todo() []int
	At() api.Place
	Moved() int
	Freed() int
	Left() int
}

// world is a mover, and its parts as others use them: a store, or the plain one of plain_test.go.
type world interface {
	calls
	begin() // a new mover
	Reserve(size int) (api.Place, api.Errno)
	Write(at api.Place, data []byte) api.Errno
	Settle(at api.Place, size int, live bool) api.Errno
	Dead(at api.Place, size int) api.Errno
	Hold(seg int) api.Errno
	Let(seg int) api.Errno
	Seal()
	Segments() []api.Segment
	Bytes(seg int) []byte
	Live() []api.Room
	Pending() []api.Room
	Get(k api.Key) (api.Entry, bool)
	Put(k api.Key, e api.Entry) bool
	Mark(k api.Key, epoch uint32) bool
	Move(k api.Key, from, to api.Place) bool
	Del(k api.Key) (api.Entry, bool)
	entries() []api.Keyed // by key
}

// store is a mover over two parts.
type store struct {
	*compact.Mover
	*arena.Arena
	*index.Index
}

// made is a store without an entry; there is no mover yet.
func made(t *testing.T, c api.Config) *store {
	t.Helper()
	a, no := arena.New(c)
	is(t, "an arena", no, api.OK)
	return &store{nil, a, index.New()}
}

func (s *store) begin() { s.Mover = compact.New(s.Arena, s.Index) }

func (s *store) entries() []api.Keyed {
	var out []api.Keyed
	for k, e := range s.All() {
		out = append(out, api.Keyed{Key: k, Entry: e})
	}
	return out
}

// is holds two answers against one another.
func is[T comparable](t *testing.T, what string, got, want T) {
	t.Helper()
	if got != want {
		t.Errorf("%s:\n got %v\nwant %v", what, got, want)
	}
}

// code is an error's word.
func code(no api.Errno) string {
	switch no {
	case api.OK:
		return "OK"
	case api.ErrFull:
		return "ErrFull"
	case api.ErrRoom:
		return "ErrRoom"
	case api.ErrSeg:
		return "ErrSeg"
	}
	return no.Error()
}

func number(word string) int {
	n, err := strconv.Atoi(word)
	if err != nil {
		panic(err)
	}
	return n
}

// body is that of a word: a letter, and how often it stands there; 0*12 stands for itself.
func body(word string) []byte {
	if strings.HasPrefix(word, "0*") {
		return []byte(word)
	}
	return bytes.Repeat([]byte(word[:1]), number(word[1:]))
}

// packed is a body's record.
func packed(body []byte) []byte {
	r, no := frame.Pack(body)
	if no != api.OK {
		panic("no body: " + no.Error())
	}
	return r
}

// bare is a word without what spoils its record.
func bare(word string) string {
	if i := strings.IndexAny(word, "!<"); i >= 0 {
		return word[:i]
	}
	return word
}

// spoiled are the bytes of a word: a20 is the record of a's, a20!5 that with its byte 5 turned, a20<15 its first 15 bytes, 0*12 so many nought bytes.
func spoiled(word string) []byte {
	if n, ok := strings.CutPrefix(word, "0*"); ok {
		return make([]byte, number(n))
	}
	b := packed(body(bare(word)))
	if _, n, ok := strings.Cut(word, "!"); ok {
		b[number(n)] ^= 0x10
	}
	if _, n, ok := strings.Cut(word, "<"); ok {
		b = b[:number(n)]
	}
	return b
}

// named are the words of the keys that were asked for.
var named = map[api.Key]string{}

// keyed is the key of a word's body.
func keyed(word string) api.Key {
	k := key.Of(body(bare(word)))
	named[k] = bare(word)
	return k
}

func word(k api.Key) string {
	if w, ok := named[k]; ok {
		return w
	}
	return key.Hex(k)[:8]
}

// place is that of a word of two numbers.
func place(word string) api.Place {
	seg, off, _ := strings.Cut(word, ".")
	return api.Place{Seg: number(seg), Off: number(off)}
}

func placed(at api.Place) string { return strconv.Itoa(at.Seg) + "." + strconv.Itoa(at.Off) }

// room is that of a word: a place and a size.
func room(word string) api.Room {
	at, size, _ := strings.Cut(word, "+")
	return api.Room{Place: place(at), Size: number(size)}
}

func roomed(list []api.Room) string {
	var out []string
	for _, r := range list {
		out = append(out, placed(r.Place)+"+"+strconv.Itoa(r.Size))
	}
	return strings.Join(out, " ")
}

// listed are the words of entries, in the order of these words: place, size, mark.
func listed(list []api.Keyed) string {
	var out []string
	for _, at := range list {
		e := at.Entry
		out = append(out, word(at.Key)+"="+placed(e.Place)+"+"+strconv.Itoa(e.Size)+"/"+strconv.FormatUint(uint64(e.Mark), 10))
	}
	slices.Sort(out)
	return strings.Join(out, " ")
}

// booked are the words of segments: free, spare, open, sealed (x), the mover's (d), with used and live bytes, how many are pending, how many hold it.
func booked(list []api.Segment) string {
	var out []string
	for _, s := range list {
		w := "fsoxd"[s.State : s.State+1]
		if s.Used > 0 {
			w += strconv.Itoa(s.Used) + "/" + strconv.Itoa(s.Live)
		}
		w += strings.Repeat("p", s.Pending) + strings.Repeat("h", s.Held)
		out = append(out, w)
	}
	return strings.Join(out, " ")
}

// numbered are numbers as words.
func numbered(list []int) string {
	var out []string
	for _, n := range list {
		out = append(out, strconv.Itoa(n))
	}
	return strings.Join(out, " ")
}

// told is all that a mover tells, and changes nothing.
func told(w calls) string {
	return numbered([]int{w.Moved(), w.Freed(), w.Left()}) + " of [" + numbered(w.Todo()) + "] at " + placed(w.At()) + " " + strconv.FormatBool(w.Ready())
}

// scene is all that can be seen of the parts.
func scene(w world) string {
	var out strings.Builder
	out.WriteString(listed(w.entries()) + "\n" + booked(w.Segments()) + "\n")
	out.WriteString("live " + roomed(w.Live()) + "\npending " + roomed(w.Pending()) + "\n")
	for i := range w.Segments() {
		out.WriteString(strconv.Quote(string(w.Bytes(i))) + "\n")
	}
	return out.String()
}

// call does what a line says, and tells the answers:
//
//	put r .. (a live record and its entry, with the mark 1) | lay r .. (a live record alone) | waste r .. (a dead one)
//	reserve n .. | write place r | live room .. | lost room .. (settled as dead) | dead room ..
//	hold seg .. | let seg .. | seal | sweep r .. (the entry out, the record dead) | del r .. (the entry alone)
//	enter r=room (an entry, with the mark 1) | move r place (the entry's place) | mark epoch r
//	New | Act (or 'Act n': so often) | Ready | Todo | At | counts (moved, freed, left)
//	segs | entries | stands place r .. (whether its bytes stand there)
func call(w world, line string) string {
	words := strings.Fields(line)
	head, rest := words[0], words[1:]
	var out []string
	switch head {
	case "write":
		return code(w.Write(place(rest[0]), spoiled(rest[1])))
	case "move":
		e, _ := w.Get(keyed(rest[0]))
		return strconv.FormatBool(w.Move(keyed(rest[0]), e.Place, place(rest[1])))
	case "mark":
		return strconv.FormatBool(w.Mark(keyed(rest[1]), uint32(number(rest[0]))))
	case "stands":
		return strconv.FormatBool(stands(w, place(rest[0]), spoiled(rest[1])))
	case "Act":
		for range number(strings.Join(append(rest, "1")[:1], "")) {
			out = append(out, strconv.FormatBool(w.Act()))
		}
	default:
		if len(rest) == 0 {
			return alone(w, head)
		}
		for _, r := range rest {
			out = append(out, one(w, head, r))
		}
	}
	return strings.Join(out, " ")
}

// stands tells whether these bytes stand at a place.
func stands(w world, at api.Place, b []byte) bool {
	all := w.Bytes(at.Seg)
	return at.Off <= len(all) && bytes.HasPrefix(all[at.Off:], b)
}

// alone does a call without words.
func alone(w world, what string) string {
	switch what {
	case "New":
		w.begin()
		return ""
	case "seal":
		w.Seal()
		return ""
	case "Ready":
		return strconv.FormatBool(w.Ready())
	case "Todo":
		return numbered(w.Todo())
	case "At":
		return placed(w.At())
	case "counts":
		return numbered([]int{w.Moved(), w.Freed(), w.Left()})
	case "segs":
		return booked(w.Segments())
	case "entries":
		return listed(w.entries())
	}
	panic("no such call: " + what)
}

// one does a call of one word.
func one(w world, what, word string) string {
	switch what {
	case "put", "lay", "waste":
		return lay(w, what, word)
	case "reserve":
		at, no := w.Reserve(number(word))
		if no != api.OK {
			return code(no)
		}
		return placed(at)
	case "live", "lost":
		return code(w.Settle(room(word).Place, room(word).Size, what == "live"))
	case "dead":
		return code(w.Dead(room(word).Place, room(word).Size))
	case "hold":
		return code(w.Hold(number(word)))
	case "let":
		return code(w.Let(number(word)))
	case "enter":
		r, at, _ := strings.Cut(word, "=")
		return strconv.FormatBool(w.Put(keyed(r), api.Entry{Place: room(at).Place, Size: room(at).Size, Mark: 1}))
	case "sweep", "del":
		e, ok := w.Del(keyed(word))
		if ok && what == "sweep" {
			return code(w.Dead(e.Place, e.Size))
		}
		return strconv.FormatBool(ok)
	}
	panic("no such call: " + what)
}

// lay writes a word's bytes into room of their own, and tells where.
func lay(w world, what, word string) string {
	b := spoiled(word)
	at, no := w.Reserve(len(b))
	if no != api.OK {
		return code(no)
	}
	w.Write(at, b)
	w.Settle(at, len(b), what != "waste")
	if what == "put" && !w.Put(keyed(word), api.Entry{Place: at, Size: len(b), Mark: 1}) {
		return "there"
	}
	return placed(at)
}

// plays does lines of the form 'call | answer', one behind the other; a line without an answer has none.
func plays(t *testing.T, what string, w world, lines string) {
	t.Helper()
	for i, line := range strings.Split(strings.TrimSpace(lines), "\n") {
		ask, want, ok := strings.Cut(line, "|")
		if !ok {
			t.Fatal("no answer in the line", line)
		}
		is(t, what+": line "+strconv.Itoa(i+1)+": "+strings.TrimSpace(ask), call(w, ask), strings.TrimSpace(want))
	}
}

// usual is the size of the scripts' arenas.
var usual = api.Config{Segs: 4, Size: 100}

// both plays lines on a store and on the plain one: a line that the chapter's words do not bear out shows.
func both(t *testing.T, what, lines string) {
	t.Helper()
	bothOf(t, what, usual, lines)
}

// bothOf is both over arenas of a size.
func bothOf(t *testing.T, what string, c api.Config, lines string) {
	t.Helper()
	p, s := newPlain(c), made(t, c)
	plays(t, what+" (plain)", p, lines)
	plays(t, what, s, lines)
	if s.Mover != nil {
		is(t, what+": behind it all", told(s), told(p))
	}
	is(t, what+": the parts behind it all", scene(s), scene(p))
}

// dice throws numbers that look like chance and are the same in each run.
type dice uint64

func (x *dice) throw(n int) int {
	*x = *x*6364136223846793005 + 1442695040888963407
	return int(uint64(*x)>>33) % n
}
