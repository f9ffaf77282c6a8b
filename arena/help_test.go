package arena_test

import (
	"encoding/hex"
	"math"
	"strconv"
	"strings"
	"testing"

	"gleaner/api"
	"gleaner/arena"
)

// calls is all that an arena can be asked: an Arena and the plain one of plain_test.go have it.
type calls interface {
	Reserve(size int) (api.Place, api.Errno)
	ReserveDest(size int) (api.Place, api.Errno)
	Write(at api.Place, data []byte) api.Errno
	Settle(at api.Place, size int, live bool) api.Errno
	Dead(at api.Place, size int) api.Errno
	Hold(seg int) api.Errno
	Let(seg int) api.Errno
	Read(at api.Place, n int) ([]byte, api.Errno)
	Seal()
	Victims() []int
	Free(seg int) api.Errno
	Finish()
	Config() api.Config
	Segments() []api.Segment
	Bytes(seg int) []byte
	Live() []api.Room
	Pending() []api.Room
}

// made is a new arena.
func made(t *testing.T, segs, size int) *arena.Arena {
	t.Helper()
	a, no := arena.New(api.Config{Segs: segs, Size: size})
	if a == nil || no != api.OK {
		t.Fatalf("P10.1: New of %d segments of %d: %s", segs, size, name(no))
	}
	return a
}

// name is an error's name.
func name(no api.Errno) string {
	switch no {
	case api.OK:
		return "OK"
	case api.ErrNil:
		return "ErrNil"
	case api.ErrArg:
		return "ErrArg"
	case api.ErrFull:
		return "ErrFull"
	case api.ErrRoom:
		return "ErrRoom"
	case api.ErrSeg:
		return "ErrSeg"
	case api.ErrHeld:
		return "ErrHeld"
	case api.ErrLive:
		return "ErrLive"
	}
	return strconv.Itoa(int(no))
}

// is holds two texts against one another.
func is(t *testing.T, what, got, want string) {
	t.Helper()
	if got != want {
		t.Errorf("%s:\n got %s\nwant %s", what, got, want)
	}
}

// number reads a number; max and min are the greatest and the least.
func number(word string) int {
	switch word {
	case "max":
		return math.MaxInt
	case "min":
		return math.MinInt
	}
	n, err := strconv.Atoi(word)
	if err != nil {
		panic(err)
	}
	return n
}

// numbers reads all words behind the first.
func numbers(words []string) []int {
	var out []int
	for _, w := range words[1:] {
		out = append(out, number(w))
	}
	return out
}

// rising are n bytes from a first one on, each one more.
func rising(n, from int) []byte {
	b := make([]byte, n)
	for i := range b {
		b[i] = byte(from + i)
	}
	return b
}

// call does what a line says, and tells the answer:
//
//	Reserve size | ReserveDest size | Read seg off n
//	Write seg off n first (n bytes that rise from the first one on)
//	Settle seg off size live (1 or 0) | Dead seg off size
//	Hold seg | Let seg | Free seg | Seal | Finish
//
// and what looks at it: states, segments, bytes seg, Live, Pending, Victims, Config.
func call(x calls, line string) string {
	words := strings.Fields(line)
	n := append(numbers(words), 0, 0, 0, 0)
	at := api.Place{Seg: n[0], Off: n[1]}
	switch words[0] {
	case "Reserve":
		return placed(x.Reserve(n[0]))
	case "ReserveDest":
		return placed(x.ReserveDest(n[0]))
	case "Write":
		return name(x.Write(at, rising(n[2], n[3])))
	case "Settle":
		return name(x.Settle(at, n[2], n[3] == 1))
	case "Dead":
		return name(x.Dead(at, n[2]))
	case "Hold":
		return name(x.Hold(n[0]))
	case "Let":
		return name(x.Let(n[0]))
	case "Free":
		return name(x.Free(n[0]))
	case "Read":
		b, no := x.Read(at, n[2])
		return beside(hex.EncodeToString(b), no)
	case "Seal":
		x.Seal()
		return "-"
	case "Finish":
		x.Finish()
		return "-"
	}
	return looked(x, words[0], n[0])
}

// looked is what a call tells that changes nothing.
func looked(x calls, word string, n int) string {
	switch word {
	case "states":
		return states(x)
	case "segments":
		return segments(x)
	case "bytes":
		return hex.EncodeToString(x.Bytes(n))
	case "Live":
		return rooms(x.Live())
	case "Pending":
		return rooms(x.Pending())
	case "Victims":
		return listed(x.Victims())
	case "Config":
		c := x.Config()
		return listed([]int{c.Segs, c.Size})
	}
	panic("no such call: " + word)
}

// beside is an answer with its error: what is told beside an error shows, too.
func beside(answer string, no api.Errno) string {
	if no == api.OK {
		return strings.TrimSpace(answer + " OK")
	}
	return strings.TrimSpace(name(no) + " " + answer)
}

func placed(at api.Place, no api.Errno) string {
	if no != api.OK && at == (api.Place{}) {
		return name(no)
	}
	return beside(strconv.Itoa(at.Seg)+"."+strconv.Itoa(at.Off), no)
}

func listed(list []int) string {
	var out []string
	for _, n := range list {
		out = append(out, strconv.Itoa(n))
	}
	return strings.Join(out, " ")
}

func rooms(list []api.Room) string {
	var out []string
	for _, r := range list {
		out = append(out, strconv.Itoa(r.Place.Seg)+"."+strconv.Itoa(r.Place.Off)+"+"+strconv.Itoa(r.Size))
	}
	return strings.Join(out, " ")
}

// letters are the states of segments: free, spare, open, sealed, the mover's.
const letters = "fsoxm"

func states(x calls) string {
	out := ""
	for _, s := range x.Segments() {
		out += string(letters[s.State])
	}
	return out
}

// segments is what is known of each: its state, used bytes, live bytes, how much is pending, who holds it.
func segments(x calls) string {
	var out []string
	for _, s := range x.Segments() {
		out = append(out, string(letters[s.State])+listed([]int{s.Used, s.Live, s.Pending, s.Held}))
	}
	return strings.Join(out, ", ")
}

// whole is all that can be seen of an arena.
func whole(x calls) string {
	out := []string{call(x, "Config"), segments(x), "live " + rooms(x.Live()), "pending " + rooms(x.Pending()), "victims " + listed(x.Victims())}
	for i := range x.Segments() {
		out = append(out, hex.EncodeToString(x.Bytes(i)))
	}
	return strings.Join(out, "; ")
}

// plays does lines of the form 'call | answer', one behind the other. An answer that is an error has changed nothing.
func plays(t *testing.T, what string, x calls, lines string) {
	t.Helper()
	for i, line := range strings.Split(strings.TrimSpace(lines), "\n") {
		asked, want, ok := strings.Cut(line, "|")
		if !ok {
			t.Fatal("no answer in the line", line)
		}
		was := whole(x)
		got := call(x, asked)
		label := what + ": line " + strconv.Itoa(i+1) + ": " + strings.TrimSpace(asked)
		is(t, label, got, strings.TrimSpace(want))
		if strings.HasPrefix(got, "Err") {
			is(t, label+": what it is behind that", whole(x), was)
		}
	}
}

// dice throws numbers that look like chance and are the same in each run.
type dice uint64

func (x *dice) throw(n int) int {
	*x = *x*6364136223846793005 + 1442695040888963407
	return int(uint64(*x)>>33) % n
}

// one is any of some.
func one[T any](x *dice, some ...T) T { return some[x.throw(len(some))] }

// roomy is a copy of b with spare room behind it that has marks in it.
func roomy(b []byte) []byte { return append(append([]byte{}, b...), "spare room"...)[:len(b)] }

// untouched tells whether b and the spare room behind it are as roomy(was) made them.
func untouched(b, was []byte) bool {
	return string(b[:len(b)+10]) == string(was)+"spare room"
}

// scribble writes over all of b, spare room included.
func scribble(b []byte) {
	b = b[:cap(b)]
	for i := range b {
		b[i] ^= 0x5A
	}
}
