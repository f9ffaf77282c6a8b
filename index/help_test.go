package index_test

import (
	"encoding/hex"
	"iter"
	"strconv"
	"strings"
	"testing"

	"gleaner/api"
	"gleaner/index"
)

// calls is all that an index can be asked: an Index and the plain one of plain_test.go have it.
type calls interface {
	Get(k api.Key) (api.Entry, bool)
	Put(k api.Key, e api.Entry) bool
	Mark(k api.Key, epoch uint32) bool
	Move(k api.Key, from, to api.Place) bool
	Del(k api.Key) (api.Entry, bool)
	Next(after api.Key, any bool) (api.Keyed, bool)
	All() iter.Seq2[api.Key, api.Entry]
	Len() int
	Sizes() [api.Shards]int
}

// made is a new index.
func made(t *testing.T) *index.Index {
	t.Helper()
	x := index.New()
	if x == nil {
		t.Fatal("P12.1: no index")
	}
	return x
}

// is holds two answers against one another.
func is[T comparable](t *testing.T, what string, got, want T) {
	t.Helper()
	if got != want {
		t.Errorf("%s:\n got %v\nwant %v", what, got, want)
	}
}

func number(word string) int {
	n, err := strconv.Atoi(word)
	if err != nil {
		panic(err)
	}
	return n
}

// named is the key of a script's word: its first bytes, and, behind a '-', its last ones, by their digits; all others are 00. 'top' is ff all over.
func named(word string) api.Key {
	var k api.Key
	if word == "top" {
		word = strings.Repeat("ff", len(k))
	}
	head, tail, _ := strings.Cut(word, "-")
	b, err := hex.DecodeString(head)
	if err != nil {
		panic(err)
	}
	copy(k[:], b)
	b, err = hex.DecodeString(tail)
	if err != nil {
		panic(err)
	}
	copy(k[len(k)-len(b):], b)
	return k
}

// digits is a key's word.
func digits(k api.Key) string {
	if k == named("top") {
		return "top"
	}
	at := len(k)
	for at > 24 && k[at-1] != 0 {
		at--
	}
	head := len(strings.TrimRight(string(k[:at]), "\x00"))
	if head == 0 {
		head = 1
	}
	out := hex.EncodeToString(k[:head])
	if at < len(k) {
		out += "-" + hex.EncodeToString(k[at:])
	}
	return out
}

// placed is the place of a word: segment.offset.
func placed(word string) api.Place {
	seg, off, _ := strings.Cut(word, ".")
	return api.Place{Seg: number(seg), Off: number(off)}
}

// read is the entry of a word: place/size/mark.
func read(word string) api.Entry {
	p := strings.Split(word, "/")
	mark, err := strconv.ParseUint(p[2], 10, 32)
	if err != nil {
		panic(err)
	}
	return api.Entry{Place: placed(p[0]), Size: number(p[1]), Mark: uint32(mark)}
}

// told is an entry's word.
func told(e api.Entry) string {
	return strconv.Itoa(e.Place.Seg) + "." + strconv.Itoa(e.Place.Off) + "/" + strconv.Itoa(e.Size) + "/" + strconv.FormatUint(uint64(e.Mark), 10)
}

// answer is an entry and whether it was there: '-', if not; an entry that is told nevertheless shows.
func answer(e api.Entry, ok bool) string {
	switch {
	case ok:
		return told(e)
	case e != api.Entry{}:
		return "-" + told(e)
	}
	return "-"
}

// keyed is what Next answered.
func keyed(k api.Keyed, ok bool) string {
	switch {
	case ok:
		return digits(k.Key) + "=" + told(k.Entry)
	case k != api.Keyed{}:
		return "-" + digits(k.Key) + "=" + told(k.Entry)
	}
	return "-"
}

// listed is all that a walk tells.
func listed(walk iter.Seq2[api.Key, api.Entry]) string {
	var out []string
	for k, e := range walk {
		out = append(out, digits(k)+"="+told(e))
	}
	return strings.Join(out, " ")
}

// stepped is all that Next tells, from the least on.
func stepped(x calls, after api.Key) string {
	var out []string
	for k, ok := x.Next(after, true); ok; k, ok = x.Next(k.Key, false) {
		out = append(out, keyed(k, true))
	}
	return strings.Join(out, " ")
}

// books is Len, and of Sizes those that are not nought.
func books(x calls) string {
	out := []string{strconv.Itoa(x.Len())}
	for i, n := range x.Sizes() {
		if n != 0 {
			out = append(out, strconv.Itoa(i)+":"+strconv.Itoa(n))
		}
	}
	return strings.Join(out, " ")
}

// call does what a line says, and tells the answers:
//
//	Put key=entry .. | Get key .. | Del key .. | Mark key epoch | Move key from to
//	Next after | Next any after | All | steps (All's, by Next) | books
func call(x calls, line string) string {
	words := strings.Fields(line)
	var out []string
	switch words[0] {
	case "Put":
		for _, w := range words[1:] {
			k, e, _ := strings.Cut(w, "=")
			out = append(out, strconv.FormatBool(x.Put(named(k), read(e))))
		}
	case "Get":
		for _, w := range words[1:] {
			out = append(out, answer(x.Get(named(w))))
		}
	case "Del":
		for _, w := range words[1:] {
			out = append(out, answer(x.Del(named(w))))
		}
	case "Mark":
		out = append(out, strconv.FormatBool(x.Mark(named(words[1]), read("0.0/0/"+words[2]).Mark)))
	case "Move":
		out = append(out, strconv.FormatBool(x.Move(named(words[1]), placed(words[2]), placed(words[3]))))
	case "Next":
		out = append(out, keyed(x.Next(named(words[len(words)-1]), len(words) == 3)))
	case "All":
		out = append(out, listed(x.All()))
	case "steps":
		out = append(out, stepped(x, api.Key{}))
	case "books":
		out = append(out, books(x))
	default:
		panic("no such call: " + line)
	}
	return strings.Join(out, " ")
}

// plays does lines of the form 'call | answer', one behind the other.
func plays(t *testing.T, what string, x calls, lines string) {
	t.Helper()
	for i, line := range strings.Split(strings.TrimSpace(lines), "\n") {
		asked, want, ok := strings.Cut(line, "|")
		if !ok {
			t.Fatal("no answer in the line", line)
		}
		is(t, what+": line "+strconv.Itoa(i+1)+": "+strings.TrimSpace(asked), call(x, asked), strings.TrimSpace(want))
	}
}

// both plays lines on an index and on the plain one: a line that the chapter's words do not bear out shows.
func both(t *testing.T, what string, lines string) {
	t.Helper()
	plays(t, what+" (plain)", plain{}, lines)
	plays(t, what, made(t), lines)
}

// dice throws numbers that look like chance and are the same in each run.
type dice uint64

func (x *dice) throw(n int) int {
	*x = *x*6364136223846793005 + 1442695040888963407
	return int(uint64(*x)>>33) % n
}

// entry is a drawn one; some numbers are such as no record has.
func (x *dice) entry() api.Entry {
	n := []int{0, 1, 2, -1, 1 << 62, -1 << 63}
	return api.Entry{Place: x.place(), Size: n[x.throw(6)], Mark: x.epoch()}
}

func (x *dice) place() api.Place {
	n := []int{0, 1, -1}
	return api.Place{Seg: n[x.throw(3)], Off: n[x.throw(3)]}
}

func (x *dice) epoch() uint32 { return []uint32{0, 1, 2, 1<<32 - 1}[x.throw(4)] }
