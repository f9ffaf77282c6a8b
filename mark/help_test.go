package mark_test

import (
	"math"
	"slices"
	"strconv"
	"strings"
	"testing"

	"gleaner/api"
	"gleaner/arena"
	"gleaner/frame"
	"gleaner/grey"
	"gleaner/index"
	"gleaner/key"
	"gleaner/mark"
	"gleaner/object"
)

// calls is all that a marker can be asked.
type calls interface {
	Touch(k api.Key, epoch uint32) bool
	Piece(epoch uint32, bottom bool) (bool, api.Errno)
	Kids(k api.Key) ([]api.Key, api.Errno)
}

// world is a marker, and its parts as others use them: a store, or the plain one of plain_test.go.
type world interface {
	calls
	put(k api.Key, o api.Object, epoch uint32) bool // lays a record, and an entry, if there is none
	spoil(k api.Key)                                // a byte of the record becomes another one; the second time it is right again
	del(k api.Key) bool
	mark(k api.Key, epoch uint32) bool
	push(k api.Key)
	bump(bottom bool)
	pop(bottom bool)
	marks() []marked // by key
	greys() []api.Grey
}

// marked is a key of the index, and its Mark.
type marked struct {
	key  api.Key
	mark uint32
}

// store is a marker over three parts.
type store struct {
	*mark.Marker
	a *arena.Arena
	x *index.Index
	l *grey.List
}

// made is a marker over new parts, of which the arena is as great as it may be.
func made(t *testing.T) *store {
	t.Helper()
	return sized(t, api.Config{Segs: api.MaxSegs, Size: api.MaxSeg})
}

// sized is a marker over new parts.
func sized(t *testing.T, c api.Config) *store {
	t.Helper()
	a, no := arena.New(c)
	is(t, "an arena", no, api.OK)
	x, l := index.New(), grey.New()
	m := mark.New(a, x, l)
	if m == nil {
		t.Fatal("P16.1: New answers nil")
	}
	return &store{m, a, x, l}
}

// lay writes bytes into room of their own. It stays pending, so that they may be written over.
func (s *store) lay(b []byte) api.Place {
	at, no := s.a.Reserve(len(b))
	if no != api.OK || s.a.Write(at, b) != api.OK {
		panic("no room: " + no.Error())
	}
	return at
}

// record is an object's.
func record(o api.Object) []byte {
	b, no := object.Encode(o)
	if no != api.OK {
		panic("no object: " + no.Error())
	}
	return packed(b)
}

// packed is a body's record.
func packed(body []byte) []byte {
	r, no := frame.Pack(body)
	if no != api.OK {
		panic("no body: " + no.Error())
	}
	return r
}

func (s *store) put(k api.Key, o api.Object, epoch uint32) bool {
	r := record(o)
	return s.x.Put(k, api.Entry{Place: s.lay(r), Size: len(r), Mark: epoch})
}

func (s *store) spoil(k api.Key) {
	e, ok := s.x.Get(k)
	if !ok {
		return
	}
	last := api.Place{Seg: e.Place.Seg, Off: e.Place.Off + e.Size - 1}
	b, _ := s.a.Read(last, 1)
	if s.a.Write(last, []byte{b[0] ^ 0x40}) != api.OK {
		panic("the record is not written over")
	}
}

func (s *store) del(k api.Key) bool {
	_, ok := s.x.Del(k)
	return ok
}

func (s *store) mark(k api.Key, epoch uint32) bool { return s.x.Mark(k, epoch) }
func (s *store) push(k api.Key)                    { s.l.Push(k) }
func (s *store) bump(bottom bool)                  { s.l.Bump(bottom) }
func (s *store) pop(bottom bool)                   { s.l.Pop(bottom) }
func (s *store) greys() []api.Grey                 { return s.l.All() }

func (s *store) marks() []marked {
	var out []marked
	for k, e := range s.x.All() {
		out = append(out, marked{k, e.Mark})
	}
	return out
}

// is holds two answers against one another.
func is[T comparable](t *testing.T, what string, got, want T) {
	t.Helper()
	if got != want {
		t.Errorf("%s:\n got %v\nwant %v", what, got, want)
	}
}

// code is an error's word.
func code(no api.Errno) string {
	switch no {
	case api.OK:
		return "OK"
	case api.ErrNil:
		return "ErrNil"
	case api.ErrBroken:
		return "ErrBroken"
	case api.ErrGone:
		return "ErrGone"
	}
	return no.Error()
}

// keyed is the key of a word: 0 is the zero one, ~ has ff all over; of two letters the first stands in the first byte and the second in the last one.
func keyed(word string) api.Key {
	var k api.Key
	switch {
	case word == "0":
	case word == "~":
		for i := range k {
			k[i] = 0xff
		}
	case len(word) == 1:
		k[0] = word[0]
	case len(word) == 2:
		k[0], k[31] = word[0], word[1]
	default:
		panic("no key's word: " + word)
	}
	return k
}

// word is a key's; the first digits, if it has none.
func word(k api.Key) string {
	for _, w := range []string{"0", "~", string(k[:1]), string([]byte{k[0], k[31]})} {
		if k == keyed(w) {
			return w
		}
	}
	return key.Hex(k)[:8]
}

func keysOf(words []string) []api.Key {
	var out []api.Key
	for _, w := range words {
		out = append(out, keyed(w))
	}
	return out
}

func wordsOf(keys []api.Key) string {
	var out []string
	for _, k := range keys {
		out = append(out, word(k))
	}
	return "[" + strings.Join(out, " ") + "]"
}

// epoch is the one of a word; greatest is that of all.
func epoch(word string) uint32 {
	if word == "greatest" {
		return math.MaxUint32
	}
	n, err := strconv.ParseUint(word, 10, 32)
	if err != nil {
		panic(err)
	}
	return uint32(n)
}

// bottom tells whether an end's word says the bottom.
func bottom(word string) bool {
	switch word {
	case "bottom":
		return true
	case "top":
		return false
	}
	panic("no end: " + word)
}

// thing is an object of a kind in which some keys stand.
func thing(kind string, kids ...api.Key) api.Object {
	switch kind {
	case "blob":
		return api.Object{Kind: api.Blob, Data: []byte("data")}
	case "list":
		o := api.Object{Kind: api.List}
		for i, k := range kids {
			o.Parts = append(o.Parts, api.Part{Key: k, Size: uint64(300 * i)})
		}
		return o
	case "tree":
		o := api.Object{Kind: api.Tree}
		for i, k := range kids {
			o.Items = append(o.Items, api.Item{Name: strconv.Itoa(100 + i), Mode: api.File, Key: k})
		}
		return o
	case "snap":
		return api.Object{Kind: api.Snap, Tree: kids[0], Parents: kids[1:], Time: -1, Note: "note"}
	}
	panic("no kind: " + kind)
}

// greyed are the words of a work list, from the bottom on.
func greyed(list []api.Grey) string {
	var out []string
	for _, g := range list {
		out = append(out, word(g.Key)+":"+strconv.Itoa(g.Next))
	}
	return "[" + strings.Join(out, " ") + "]"
}

// tinted are the words of the keys of an index and their marks.
func tinted(list []marked) string {
	var out []string
	for _, m := range list {
		out = append(out, word(m.key)+"="+strconv.FormatUint(uint64(m.mark), 10))
	}
	return strings.Join(out, " ")
}

// kidsTold is what Kids answered; kids beside an error show.
func kidsTold(kids []api.Key, no api.Errno) string {
	switch {
	case no == api.OK:
		return wordsOf(kids)
	case len(kids) > 0:
		return code(no) + wordsOf(kids)
	}
	return code(no)
}

// pieceTold is what Piece answered.
func pieceTold(did bool, no api.Errno) string { return strconv.FormatBool(did) + " " + code(no) }

// call does what a line says, and tells the answers:
//
//	blob k .. | list k kids | tree k kids | snap k kids (what is put, with the mark 0)
//	del k .. | spoil k .. | mark epoch k .. | push k .. | bump end .. | pop end ..
//	Touch epoch k .. (and the work list) | Piece epoch end .. (and the work list behind each) | Kids k ..
//	greys | marks
func call(w world, line string) string {
	words := strings.Fields(line)
	head, rest := words[0], words[1:]
	var out []string
	switch head {
	case "list", "tree", "snap":
		return strconv.FormatBool(w.put(keyed(rest[0]), thing(head, keysOf(rest[1:])...), 0))
	case "greys":
		return greyed(w.greys())
	case "marks":
		return tinted(w.marks())
	case "mark", "Touch", "Piece":
		for _, r := range rest[1:] {
			out = append(out, dated(w, head, epoch(rest[0]), r))
		}
	default:
		for _, r := range rest {
			out = append(out, one(w, head, r))
		}
	}
	if head == "Touch" {
		out = append(out, greyed(w.greys()))
	}
	return strings.TrimSpace(strings.Join(out, " "))
}

// dated does a call with an epoch, and tells its answer.
func dated(w world, what string, epoch uint32, word string) string {
	switch what {
	case "mark":
		return strconv.FormatBool(w.mark(keyed(word), epoch))
	case "Touch":
		return strconv.FormatBool(w.Touch(keyed(word), epoch))
	}
	answer := pieceTold(w.Piece(epoch, bottom(word)))
	return answer + " " + greyed(w.greys())
}

// one does a call without one, and tells its answer, if it has one.
func one(w world, what, word string) string {
	switch what {
	case "blob":
		return strconv.FormatBool(w.put(keyed(word), thing("blob"), 0))
	case "del":
		return strconv.FormatBool(w.del(keyed(word)))
	case "Kids":
		return kidsTold(w.Kids(keyed(word)))
	case "spoil":
		w.spoil(keyed(word))
	case "push":
		w.push(keyed(word))
	case "bump":
		w.bump(bottom(word))
	case "pop":
		w.pop(bottom(word))
	default:
		panic("no such call: " + what)
	}
	return ""
}

// plays does lines of the form 'call | answer', one behind the other; a line without an answer has none.
func plays(t *testing.T, what string, w world, lines string) {
	t.Helper()
	for i, line := range strings.Split(strings.TrimSpace(lines), "\n") {
		ask, want, ok := strings.Cut(line, "|")
		if !ok {
			t.Fatal("no answer in the line", line)
		}
		is(t, what+": line "+strconv.Itoa(i+1)+": "+strings.TrimSpace(ask), call(w, ask), strings.TrimSpace(want))
	}
}

// both plays lines on a store and on the plain one: a line that the chapter's words do not bear out shows.
func both(t *testing.T, what, lines string) {
	t.Helper()
	plays(t, what+" (plain)", &plain{}, lines)
	plays(t, what, made(t), lines)
}

// scene is all that can be seen of the parts.
func (s *store) scene() string {
	var out strings.Builder
	for k, e := range s.x.All() {
		out.WriteString(word(k) + " in " + strconv.Itoa(e.Place.Seg) + "." + strconv.Itoa(e.Place.Off) + ", " + strconv.Itoa(e.Size) + ", " + strconv.FormatUint(uint64(e.Mark), 10) + "\n")
	}
	out.WriteString(greyed(s.l.All()) + "\n")
	for i, seg := range s.a.Segments() {
		if seg == (api.Segment{}) {
			continue
		}
		for _, n := range []int{i, int(seg.State), seg.Used, seg.Live, seg.Pending, seg.Held} {
			out.WriteString(strconv.Itoa(n) + " ")
		}
		out.WriteString(strconv.Quote(string(s.a.Bytes(i))) + "\n")
	}
	for _, rooms := range [][]api.Room{s.a.Live(), s.a.Pending()} {
		for _, r := range rooms {
			out.WriteString(strconv.Itoa(r.Place.Seg) + "." + strconv.Itoa(r.Place.Off) + "+" + strconv.Itoa(r.Size) + " ")
		}
		out.WriteString("\n")
	}
	return out.String()
}

// dice throws numbers that look like chance and are the same in each run.
type dice uint64

func (x *dice) throw(n int) int {
	*x = *x*6364136223846793005 + 1442695040888963407
	return int(uint64(*x)>>33) % n
}

// numbered is a key by a number.
func numbered(n int) api.Key { return key.Of([]byte(strconv.Itoa(n))) }

// sameAs holds the index's marks and the work list of two against one another.
func sameAs(t *testing.T, what string, got, want world) {
	t.Helper()
	if g, w := got.greys(), want.greys(); !slices.Equal(g, w) {
		t.Errorf("%s: the list:\n got %s\nwant %s", what, greyed(g), greyed(w))
	}
	if g, w := got.marks(), want.marks(); !slices.Equal(g, w) {
		t.Errorf("%s: the marks:\n got %s\nwant %s", what, tinted(g), tinted(w))
	}
}
