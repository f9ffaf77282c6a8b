package sweep_test

import (
	"math"
	"strconv"
	"strings"
	"testing"

	"gleaner/api"
	"gleaner/arena"
	"gleaner/index"
	"gleaner/key"
	"gleaner/sweep"
)

// calls is all that a sweeper can be asked.
type calls interface {
	Act() bool
	Removed() int
}

// world is a sweeper, and its parts as others use them: a store, or the plain one of plain_test.go.
type world interface {
	calls
	begin(epoch uint32) // a new sweeper
	put(k api.Key, e api.Entry) bool
	del(k api.Key) bool
	mark(k api.Key, epoch uint32) bool
	move(k api.Key, to api.Place) bool
	dead(r api.Room) api.Errno
	entries() []api.Keyed // by key
	live() []api.Room     // by place
}

// store is a sweeper over two parts.
type store struct {
	*sweep.Sweeper
	a *arena.Arena
	x *index.Index
}

// rooms is how many rooms the arena of a store has; those from waiting on are pending, the others live.
const rooms, waiting = 100, 80

// size is the arena's: ten pairs of rooms fill a segment.
var size = api.Config{Segs: 6, Size: 200}

// room is the n-th one: rooms have 7 and 13 bytes by turns.
func room(n int) api.Room {
	return api.Room{Place: api.Place{Seg: n / 20, Off: n%20/2*20 + n%2*7}, Size: 7 + n%2*6}
}

// filled is an arena with all rooms.
func filled(t *testing.T) *arena.Arena {
	t.Helper()
	a, no := arena.New(size)
	is(t, "an arena", no, api.OK)
	for n := range rooms {
		r := room(n)
		at, no := a.Reserve(r.Size)
		is(t, "a room", at, r.Place)
		is(t, "a room", no, api.OK)
		a.Write(at, []byte(strconv.Itoa(n)))
		if n < waiting {
			a.Settle(at, r.Size, true)
		}
	}
	return a
}

// made is a store without an entry, the sweeper's epoch is 5.
func made(t *testing.T) *store {
	t.Helper()
	s := &store{a: filled(t), x: index.New()}
	s.begin(5)
	if s.Sweeper == nil {
		t.Fatal("P17.1: New answers nil")
	}
	return s
}

func (s *store) begin(epoch uint32)                { s.Sweeper = sweep.New(s.a, s.x, epoch) }
func (s *store) put(k api.Key, e api.Entry) bool   { return s.x.Put(k, e) }
func (s *store) mark(k api.Key, epoch uint32) bool { return s.x.Mark(k, epoch) }
func (s *store) dead(r api.Room) api.Errno         { return s.a.Dead(r.Place, r.Size) }
func (s *store) live() []api.Room                  { return s.a.Live() }

func (s *store) del(k api.Key) bool {
	_, ok := s.x.Del(k)
	return ok
}

func (s *store) move(k api.Key, to api.Place) bool {
	e, _ := s.x.Get(k)
	return s.x.Move(k, e.Place, to)
}

func (s *store) entries() []api.Keyed {
	var out []api.Keyed
	for k, e := range s.x.All() {
		out = append(out, api.Keyed{Key: k, Entry: e})
	}
	return out
}

// is holds two answers against one another.
func is[T comparable](t *testing.T, what string, got, want T) {
	t.Helper()
	if got != want {
		t.Errorf("%s:\n got %v\nwant %v", what, got, want)
	}
}

// keyed is the key of a word: 0 is the zero one, ~ has ff all over; of two letters the first stands in the first byte and the second in the last one.
func keyed(word string) api.Key {
	var k api.Key
	switch {
	case word == "0":
	case word == "~":
		for i := range k {
			k[i] = 0xff
		}
	case len(word) == 1:
		k[0] = word[0]
	case len(word) == 2:
		k[0], k[31] = word[0], word[1]
	default:
		panic("no key's word: " + word)
	}
	return k
}

// word is a key's; the first digits, if it has none.
func word(k api.Key) string {
	for _, w := range []string{"0", "~", string(k[:1]), string([]byte{k[0], k[31]})} {
		if k == keyed(w) {
			return w
		}
	}
	return key.Hex(k)[:8]
}

// number is a word's; greatest is the greatest epoch.
func number(word string) int {
	if word == "greatest" {
		return math.MaxUint32
	}
	n, err := strconv.Atoi(word)
	if err != nil {
		panic(err)
	}
	return n
}

// wrong are places and sizes of no room.
var wrong = map[string]api.Entry{
	"none":  {},
	"below": {Place: api.Place{Seg: -1, Off: -2}, Size: -3},
	"far":   {Place: api.Place{Seg: math.MaxInt, Off: math.MaxInt}, Size: math.MaxInt},
	"least": {Place: api.Place{Seg: math.MinInt, Off: math.MinInt}, Size: math.MinInt},
}

// entry is that of a mark's and a room's word: a room's number, behind which + says that the size is one more, and > that the place lies one byte behind; or a word of wrong.
func entry(mark, where string) api.Entry {
	e, ok := wrong[where]
	if !ok {
		r := room(number(strings.TrimRight(where, "+>")))
		e = api.Entry{Place: r.Place, Size: r.Size + strings.Count(where, "+")}
		e.Place.Off += strings.Count(where, ">")
	}
	e.Mark = uint32(number(mark))
	return e
}

// told is an entry's word; its numbers, if it has none.
func told(e api.Entry) string {
	mark := strconv.FormatUint(uint64(e.Mark), 10)
	for w, f := range wrong {
		if f.Place == e.Place && f.Size == e.Size {
			return mark + "/" + w
		}
	}
	for n := range rooms {
		for _, more := range []string{"", "+", ">"} {
			if w := strconv.Itoa(n) + more; entry(mark, w) == e {
				return mark + "/" + w
			}
		}
	}
	return mark + "/" + strconv.Itoa(e.Place.Seg) + "." + strconv.Itoa(e.Place.Off) + "+" + strconv.Itoa(e.Size)
}

// listed are the words of entries.
func listed(list []api.Keyed) string {
	var out []string
	for _, at := range list {
		out = append(out, word(at.Key)+"="+told(at.Entry))
	}
	return strings.Join(out, " ")
}

// gone are the numbers of the rooms that were live at first, and are not among these.
func gone(live []api.Room) string {
	var out []string
	i := 0
	for n := range waiting {
		if i < len(live) && live[i] == room(n) {
			i++
			continue
		}
		out = append(out, strconv.Itoa(n))
	}
	if i < len(live) {
		out = append(out, "and there is another one")
	}
	return "[" + strings.Join(out, " ") + "]"
}

// call does what a line says, and tells the answers:
//
//	New epoch | Act (or 'Act n': so often) | Removed
//	put key=mark/room .. | del key .. | mark epoch key .. | move key room | dead room ..
//	keys (the entries) | gone (the rooms that are live no more)
func call(w world, line string) string {
	words := strings.Fields(line)
	head, rest := words[0], words[1:]
	var out []string
	switch head {
	case "New":
		w.begin(uint32(number(rest[0])))
	case "Removed":
		return strconv.Itoa(w.Removed())
	case "keys":
		return listed(w.entries())
	case "gone":
		return gone(w.live())
	case "move":
		return strconv.FormatBool(w.move(keyed(rest[0]), room(number(rest[1])).Place))
	case "mark":
		for _, r := range rest[1:] {
			out = append(out, strconv.FormatBool(w.mark(keyed(r), uint32(number(rest[0])))))
		}
	case "Act":
		for range number(strings.Join(append(rest, "1")[:1], "")) {
			out = append(out, strconv.FormatBool(w.Act()))
		}
	default:
		for _, r := range rest {
			out = append(out, one(w, head, r))
		}
	}
	return strings.Join(out, " ")
}

// one does a call of a word.
func one(w world, what, word string) string {
	switch what {
	case "put":
		k, e, _ := strings.Cut(word, "=")
		mark, where, _ := strings.Cut(e, "/")
		return strconv.FormatBool(w.put(keyed(k), entry(mark, where)))
	case "del":
		return strconv.FormatBool(w.del(keyed(word)))
	case "dead":
		return strconv.FormatBool(w.dead(room(number(word))) == api.OK)
	}
	panic("no such call: " + what)
}

// plays does lines of the form 'call | answer', one behind the other; a line without an answer has none.
func plays(t *testing.T, what string, w world, lines string) {
	t.Helper()
	for i, line := range strings.Split(strings.TrimSpace(lines), "\n") {
		ask, want, ok := strings.Cut(line, "|")
		if !ok {
			t.Fatal("no answer in the line", line)
		}
		is(t, what+": line "+strconv.Itoa(i+1)+": "+strings.TrimSpace(ask), call(w, ask), strings.TrimSpace(want))
	}
}

// both plays lines on a store and on the plain one: a line that the chapter's words do not bear out shows.
func both(t *testing.T, what, lines string) {
	t.Helper()
	plays(t, what+" (plain)", newPlain(), lines)
	plays(t, what, made(t), lines)
}

// scene is all that can be seen of the parts.
func (s *store) scene() string {
	var out strings.Builder
	out.WriteString(listed(s.entries()) + "\n")
	for _, n := range s.x.Sizes() {
		out.WriteString(strconv.Itoa(n) + " ")
	}
	for i, seg := range s.a.Segments() {
		for _, n := range []int{i, int(seg.State), seg.Used, seg.Live, seg.Pending, seg.Held} {
			out.WriteString(strconv.Itoa(n) + " ")
		}
		out.WriteString(strconv.Quote(string(s.a.Bytes(i))) + "\n")
	}
	for _, list := range [][]api.Room{s.a.Live(), s.a.Pending()} {
		for _, r := range list {
			out.WriteString(strconv.Itoa(r.Place.Seg) + "." + strconv.Itoa(r.Place.Off) + "+" + strconv.Itoa(r.Size) + " ")
		}
		out.WriteString("\n")
	}
	return out.String()
}

// dice throws numbers that look like chance and are the same in each run.
type dice uint64

func (x *dice) throw(n int) int {
	*x = *x*6364136223846793005 + 1442695040888963407
	return int(uint64(*x)>>33) % n
}

// numbered is a key by a number.
func numbered(n int) api.Key { return key.Of([]byte(strconv.Itoa(n))) }
