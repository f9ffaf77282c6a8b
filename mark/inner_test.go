package mark

import (
	"slices"
	"strconv"
	"strings"
	"testing"

	"gleaner/api"
	"gleaner/frame"
	"gleaner/object"
)

// others are parts that a marker is tried over: made-up objects, of which each is a list of the two numbers that are twice its own and one more or two more, and a work list; what is asked of them is written down.
type others struct {
	count int // the numbers are below it
	marks map[int]uint32
	greys []api.Grey
	asked []string
	no    api.Errno // what a reading answers
}

// over is a marker over them.
func over(count int) (*Marker, *others) {
	o := &others{count: count, marks: map[int]uint32{}}
	return &Marker{read: o.read, index: o, list: o}, o
}

func numbered(n int) api.Key { return api.Key{byte(n >> 8), byte(n)} }

func number(k api.Key) int { return int(k[0])<<8 | int(k[1]) }

func (o *others) ask(words ...string) { o.asked = append(o.asked, strings.Join(words, " ")) }

// told are all that was asked since it was told last.
func (o *others) told() string {
	asked := strings.Join(o.asked, ", ")
	o.asked = nil
	return asked
}

// record is that of a number.
func (o *others) record(n int) []byte {
	list := api.Object{Kind: api.List}
	for _, kid := range []int{2*n + 1, 2*n + 2} {
		if kid < o.count {
			list.Parts = append(list.Parts, api.Part{Key: numbered(kid)})
		}
	}
	b, _ := object.Encode(list)
	r, _ := frame.Pack(b)
	return r
}

func (o *others) read(at api.Place, n int) ([]byte, api.Errno) {
	o.ask("read", strconv.Itoa(at.Seg), strconv.Itoa(at.Off), strconv.Itoa(n))
	if o.no != api.OK {
		return nil, o.no
	}
	return o.record(at.Seg), api.OK
}

func (o *others) Get(k api.Key) (api.Entry, bool) {
	n := number(k)
	o.ask("Get", strconv.Itoa(n))
	if n >= o.count {
		return api.Entry{}, false
	}
	return api.Entry{Place: api.Place{Seg: n, Off: -n}, Size: len(o.record(n)), Mark: o.marks[n]}, true
}

func (o *others) Mark(k api.Key, epoch uint32) bool {
	n := number(k)
	o.ask("Mark", strconv.Itoa(n), strconv.Itoa(int(epoch)))
	if n >= o.count || o.marks[n] == epoch {
		return false
	}
	o.marks[n] = epoch
	return true
}

func (o *others) Push(k api.Key) {
	o.ask("Push", strconv.Itoa(number(k)))
	o.greys = append(o.greys, api.Grey{Key: k})
}

// at is what stands at a place of the work list.
func (o *others) at(i int) (api.Grey, bool) {
	if i < 0 || i >= len(o.greys) {
		return api.Grey{}, false
	}
	return o.greys[i], true
}

// end is the place of an end.
func (o *others) end(bottom bool) int {
	if bottom {
		return 0
	}
	return len(o.greys) - 1
}

func (o *others) Top() (api.Grey, bool)    { return o.at(o.end(false)) }
func (o *others) Bottom() (api.Grey, bool) { return o.at(o.end(true)) }

func (o *others) Bump(bottom bool) (api.Grey, bool) {
	o.ask("Bump", strconv.FormatBool(bottom))
	o.greys[o.end(bottom)].Next++
	return o.at(o.end(bottom))
}

func (o *others) Pop(bottom bool) (api.Grey, bool) {
	o.ask("Pop", strconv.FormatBool(bottom))
	g, ok := o.at(o.end(bottom))
	o.greys = slices.Delete(o.greys, o.end(bottom), o.end(bottom)+1)
	return g, ok
}

// Ways: the marker is tried over others: all that can be come to is marked, by as many Pieces as keys and kids.
func TestOverOthers(t *testing.T) {
	for _, bottom := range []bool{false, true} {
		for _, count := range []int{1, 2, 3, 1000} {
			m, o := over(count)
			if !m.Touch(numbered(0), 5) || m.Touch(numbered(count), 5) {
				t.Errorf("of %d: Touch", count)
			}
			pieces := 0
			for did, no := m.Piece(5, bottom); did; did, no = m.Piece(5, bottom) {
				if pieces++; no != api.OK || pieces > 3000 {
					t.Fatalf("of %d: Piece %d: %v", count, pieces, no)
				}
			}
			if len(o.marks) != count || pieces != 2*count-1 {
				t.Errorf("of %d: %d are marked, by %d Pieces", count, len(o.marks), pieces)
			}
		}
	}
}

// P16.3, P16.4: a record is read by what its entry says, once a Piece, and nothing is kept of it; the end's Next goes up ahead of the touching.
func TestAsked(t *testing.T) {
	m, o := over(6)
	size := strconv.Itoa(len(o.record(0)))
	shorter := strconv.Itoa(len(o.record(2)))
	none := strconv.Itoa(len(o.record(5)))
	steps := []struct {
		what, want string
		do         func()
	}{
		{"Touch", "Mark 0 9, Push 0", func() { m.Touch(numbered(0), 9) }},
		{"Touch again", "Mark 0 9", func() { m.Touch(numbered(0), 9) }},
		{"Kids", "Get 0, read 0 0 " + size, func() { m.Kids(numbered(0)) }},
		{"Kids of none", "Get 6", func() { m.Kids(numbered(6)) }},
		{"a kid", "Get 0, read 0 0 " + size + ", Bump false, Mark 1 9, Push 1", func() { m.Piece(9, false) }},
		{"another kid", "Get 0, read 0 0 " + size + ", Bump true, Mark 2 9, Push 2", func() { m.Piece(9, true) }},
		{"no further kid", "Get 0, read 0 0 " + size + ", Pop true", func() { m.Piece(9, true) }},
		{"its only kid", "Get 2, read 2 -2 " + shorter + ", Bump false, Mark 5 9, Push 5", func() { m.Piece(9, false) }},
		{"no kid", "Get 5, read 5 -5 " + none + ", Pop false", func() { m.Piece(9, false) }},
		{"nothing more", "Get 2, read 2 -2 " + shorter + ", Pop false", func() { m.Piece(9, false) }},
	}
	for _, s := range steps {
		s.do()
		if got := o.told(); got != s.want {
			t.Errorf("%s: %s, not %s", s.what, got, s.want)
		}
	}
}

// P16.4: whatever a reading answers that is no OK, the record is broken.
func TestReadErrors(t *testing.T) {
	for _, no := range []api.Errno{api.ErrNil, api.ErrArg, api.ErrRoom, api.ErrSeg, api.ErrGone, -1} {
		m, o := over(3)
		m.Touch(numbered(0), 1)
		o.no = no
		if kids, got := m.Kids(numbered(0)); got != api.ErrBroken || len(kids) > 0 {
			t.Errorf("%v: Kids: %v, %v", no, kids, got)
		}
		if did, got := m.Piece(1, false); !did || got != api.ErrBroken || len(o.greys) > 0 {
			t.Errorf("%v: Piece: %v, %v, %v", no, did, got, o.greys)
		}
	}
}
