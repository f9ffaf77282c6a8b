package mark_test

import (
	"math"
	"slices"
	"strconv"
	"strings"
	"testing"

	"gleaner/api"
	"gleaner/object"
)

// P16.4: of each kind, in their order, each as often as it stands there; of a key that the index has not.
func TestKids(t *testing.T) {
	both(t, "P16.4: kids", `
		blob b              | true
		list l              | true
		list m c a c b      | true
		tree t              | true
		tree u z a z z      | true
		snap s a            | true
		snap r b a b c      | true
		Kids b l m          | [] [] [c a c b]
		Kids t u            | [] [z a z z]
		Kids s r            | [a] [b a b c]
		Kids a c z 0 ~      | ErrGone ErrGone ErrGone ErrGone ErrGone
		greys               | []
		marks               | b=0 l=0 m=0 r=0 s=0 t=0 u=0`)
	both(t, "P16.4: under the least and the greatest key, with these as kids", `
		tree 0 0 ~ 0        | true
		list ~ ~ 0          | true
		Kids 0 ~            | [0 ~ 0] [~ 0]
		del 0               | true
		Kids 0 ~            | ErrGone [~ 0]
		snap 0 a            | true
		Kids 0              | [a]`)
	both(t, "P16.4: the mark and the list do not matter", `
		tree t a            | true
		tree u b            | true
		mark greatest t     | true
		push u              |
		bump top            |
		Kids t u            | [a] [b]
		marks               | t=4294967295 u=0
		greys               | [u:1]`)
	both(t, "P16.4: broken and mended", `
		blob b              | true
		tree t a            | true
		spoil t             |
		Kids t b            | ErrBroken []
		spoil b             |
		spoil t             |
		Kids t b            | [a] ErrBroken
		del b               | true
		Kids b              | ErrGone`)
}

// P16.4: objects whose fields take all values, as many kids as there may be.
func TestKidsOfAll(t *testing.T) {
	var many []api.Key
	for i := range api.MaxKids {
		many = append(many, numbered(i%100))
	}
	long := api.Object{Kind: api.Tree}
	for i := range 100 {
		long.Items = append(long.Items, api.Item{Name: strconv.Itoa(100+i) + strings.Repeat("n", 41), Mode: api.Mode(1 + i%4), Key: numbered(i)})
	}
	sizes := api.Object{Kind: api.List, Parts: []api.Part{{Key: numbered(1), Size: api.MaxTotal - 1}, {Key: numbered(0), Size: 1}}}
	objects := map[string]api.Object{
		"a list of the most":       thing("list", many...),
		"a tree of the most":       thing("tree", many...),
		"a snapshot of the most":   thing("snap", many...),
		"a long tree":              long,
		"the greatest blob":        {Kind: api.Blob, Data: make([]byte, api.MaxObject-1)},
		"the empty blob":           {Kind: api.Blob},
		"the greatest sizes":       sizes,
		"a snapshot of zero":       {Kind: api.Snap},
		"a snapshot with a note":   {Kind: api.Snap, Tree: numbered(3), Time: math.MinInt64, Note: strings.Repeat("o", api.MaxNote)},
		"a tree of the zero key":   {Kind: api.Tree, Items: []api.Item{{Name: "z", Mode: api.Dir}}},
		"a blob that is a key":     {Kind: api.Blob, Data: make([]byte, 32)},
		"a blob that is a tree":    {Kind: api.Blob, Data: encoded(thing("tree", many[:3]...))},
		"a blob that is a record":  {Kind: api.Blob, Data: record(thing("tree", many[:3]...))},
		"a list of one, of itself": {Kind: api.List, Parts: []api.Part{{Key: keyed("o")}}},
	}
	for what, o := range objects {
		s := made(t)
		s.put(keyed("x"), thing("tree", numbered(9)), 0)
		s.put(keyed("o"), o, 0)
		s.put(keyed("y"), thing("tree", numbered(8)), 0)
		want := s.scene()
		kids, no := s.Kids(keyed("o"))
		is(t, "P16.4: "+what, no, api.OK)
		is(t, "P16.4: "+what, slices.Equal(kids, standing(o)), true)
		is(t, "P16.4: "+what+": nothing changes", s.scene(), want)
	}
}

// encoded is an object's encoding.
func encoded(o api.Object) []byte {
	b, no := object.Encode(o)
	if no != api.OK {
		panic("no object: " + no.Error())
	}
	return b
}

// P16.4: what is broken: by the entry's place and size.
func TestKidsPlaces(t *testing.T) {
	s := sized(t, api.Config{Segs: 3, Size: 400})
	first, second := record(thing("tree", keyed("a"))), record(thing("list", keyed("b"), keyed("c")))
	s.lay(make([]byte, 20))
	at := s.lay(first)
	next := s.lay(second)
	n, m := len(first), len(second)
	s.lay(make([]byte, 400-20-n-m))
	far := s.lay(second)
	s.lay(make([]byte, 400-2*m))
	end := s.lay(second)
	is(t, "the last place", end, api.Place{Seg: 1, Off: 400 - m})
	in := func(seg, off, size int) api.Entry { return api.Entry{Place: api.Place{Seg: seg, Off: off}, Size: size} }
	right := map[api.Entry]string{
		{Place: at, Size: n}:   "[a]",
		{Place: next, Size: m}: "[b c]",
		{Place: far, Size: m}:  "[b c]",
		{Place: end, Size: m}:  "[b c]",
	}
	tells := func(e api.Entry) string {
		s.x.Del(keyed("k"))
		s.x.Put(keyed("k"), e)
		want := s.scene()
		answer := kidsTold(s.Kids(keyed("k")))
		is(t, "P16.4: nothing changes", s.scene(), want)
		return answer
	}
	for e, want := range right {
		is(t, "P16.4: a right one", tells(e), want)
	}
	var wrong []api.Entry
	for size := -12; size < 420; size++ {
		wrong = append(wrong, in(0, at.Off, size), in(1, end.Off, size))
	}
	for off := -12; off < 420; off++ {
		wrong = append(wrong, in(0, off, n), in(0, off, m), in(1, off, m), in(2, off, n), in(2, off, m))
	}
	for _, i := range []int{math.MinInt, math.MinInt + 1, math.MinInt32, -400, -1, 2, 3, 4, 64, 1 << 20, math.MaxInt32, math.MaxInt - 1, math.MaxInt} {
		wrong = append(wrong, in(i, 0, n), in(i, at.Off, n), in(i, 0, 0), in(0, i, n), in(0, i, 0), in(0, at.Off, i), in(1, end.Off, i), in(i, i, i))
	}
	wrong = append(wrong, in(0, at.Off, n+m), in(0, at.Off-20, 20+n), in(0, at.Off+10, n-10), in(0, next.Off-1, m), in(0, 0, 0), api.Entry{})
	tried := 0
	for _, e := range wrong {
		if right[e] == "" {
			is(t, "P16.4: "+strconv.Itoa(e.Place.Seg)+"."+strconv.Itoa(e.Place.Off)+", "+strconv.Itoa(e.Size), tells(e), "ErrBroken")
			tried++
		}
	}
	is(t, "P16.4: tried", tried > 3000, true)
}

// bodies are such as are no object's encoding.
var bodies = map[string][]byte{
	"none":                               {},
	"a kind below":                       {0},
	"a kind above":                       {5, 1},
	"a kind far above":                   {255},
	"a list without a count":             {2},
	"a list of one without a part":       {2, 1},
	"a list with a byte left over":       {2, 0, 0},
	"a list with a long count":           {2, 0x80, 0},
	"a tree with a byte left over":       {3, 0, 0},
	"a tree with a mode that is none":    append([]byte{3, 1, 1, 'a', 5, 0}, make([]byte, 32)...),
	"a tree with a name that is none":    append([]byte{3, 1, 1, '/', 1, 0}, make([]byte, 32)...),
	"a tree cut short":                   append([]byte{3, 1, 1, 'a', 1, 0}, make([]byte, 31)...),
	"a snapshot alone":                   {4},
	"a snapshot cut short":               append([]byte{4}, make([]byte, 32+1+8)...),
	"a snapshot with a note that is not": append(append([]byte{4}, make([]byte, 32+1+8)...), 1, 0xff),
	"a blob that is too long":            append([]byte{1}, make([]byte, 8192)...),
	"much too long":                      append([]byte{1}, make([]byte, 65000)...),
	"more kids than may be":              append([]byte{2, 0x81, 1}, make([]byte, 129*33)...),
	"a text":                             []byte("no object"),
}

// P16.4: what is broken: right records whose bodies are no object's encoding.
func TestKidsBodies(t *testing.T) {
	for what, b := range bodies {
		s := made(t)
		r := packed(b)
		s.x.Put(keyed("k"), api.Entry{Place: s.lay(r), Size: len(r)})
		want := s.scene()
		is(t, "P16.4: "+what, kidsTold(s.Kids(keyed("k"))), "ErrBroken")
		is(t, "P16.4: "+what+": nothing changes", s.scene(), want)
		s.l.Push(keyed("k"))
		is(t, "P16.3: "+what, pieceTold(s.Piece(1, true)), "true ErrBroken")
		is(t, "P16.3: "+what+": taken off", s.l.Len(), 0)
		is(t, "P16.3: "+what+": nothing else changes", s.scene(), want)
	}
	two := made(t)
	r := packed(encoded(thing("tree", keyed("a"), keyed("b"))))
	at := two.lay(slices.Concat(r, packed(nil)))
	two.x.Put(keyed("k"), api.Entry{Place: at, Size: len(r)})
	is(t, "P16.4: a right one with another behind it", kidsTold(two.Kids(keyed("k"))), "[a b]")
	two.x.Del(keyed("k"))
	two.x.Put(keyed("k"), api.Entry{Place: at, Size: len(r) + 10})
	is(t, "P16.4: two records in one entry", kidsTold(two.Kids(keyed("k"))), "ErrBroken")
}

// P16.4: what is broken: a record with any one bit of it turned; with that bit turned back it is right again.
func TestKidsBits(t *testing.T) {
	for _, o := range []api.Object{thing("tree", keyed("a"), keyed("b")), thing("blob"), {Kind: api.Blob}} {
		s := made(t)
		s.lay([]byte("ahead"))
		r := record(o)
		at := s.lay(r)
		s.lay([]byte("behind"))
		s.x.Put(keyed("k"), api.Entry{Place: at, Size: len(r)})
		for i := range r {
			for bit := range 8 {
				spoiled := []byte{r[i] ^ 1<<bit}
				here := api.Place{Seg: at.Seg, Off: at.Off + i}
				s.a.Write(here, spoiled)
				is(t, "P16.4: byte "+strconv.Itoa(i)+", bit "+strconv.Itoa(bit), kidsTold(s.Kids(keyed("k"))), "ErrBroken")
				s.a.Write(here, r[i:i+1])
			}
			is(t, "P16.4: mended", kidsTold(s.Kids(keyed("k"))), wordsOf(standing(o)))
		}
	}
}

// P16.4: what stands at the place counts, whether its room is pending, live or dead.
func TestKidsRooms(t *testing.T) {
	s := sized(t, api.Config{Segs: 3, Size: 200})
	a, k := s.a, keyed("k")
	tells := func(what, want string) {
		t.Helper()
		is(t, "P16.4: "+what, kidsTold(s.Kids(k)), want)
	}
	r := record(thing("tree", keyed("az"), keyed("bz")))
	at, _ := a.Reserve(len(r))
	s.x.Put(k, api.Entry{Place: at, Size: len(r)})
	tells("nothing was written", "ErrBroken")
	a.Write(at, r[:len(r)-1])
	tells("all but a byte was written", "ErrBroken")
	a.Write(api.Place{Off: len(r) - 1}, r[len(r)-1:])
	tells("all was written", "[az bz]")
	a.Settle(at, len(r), true)
	tells("it is live", "[az bz]")
	a.Seal()
	a.Hold(0)
	tells("it is sealed, and held", "[az bz]")
	a.Let(0)
	to, _ := a.ReserveDest(len(r))
	a.Write(to, r)
	s.x.Move(k, at, to)
	tells("it was moved", "[az bz]")
	a.Dead(at, len(r))
	s.x.Move(k, to, at)
	tells("it is dead", "[az bz]")
	a.Free(0)
	tells("it is freed", "ErrBroken")
	other := record(thing("list", keyed("c"), keyed("c")))
	a.Finish()
	again, _ := a.ReserveDest(len(other))
	is(t, "the same place", again, at)
	a.Write(at, other)
	s.x.Del(k)
	s.x.Put(k, api.Entry{Place: at, Size: len(other)})
	tells("another one stands there", "[c c]")
}

// P0.1: an answer is new memory, spare room included; it is nobody else's, and stays as it was.
func TestKidsAreNew(t *testing.T) {
	for _, kind := range []string{"list", "tree", "snap"} {
		s := made(t)
		kids := keysOf([]string{"a", "b", "a", "c", "d"})
		s.put(keyed("k"), thing(kind, kids...), 0)
		s.l.Push(keyed("k"))
		want := s.scene()
		first, _ := s.Kids(keyed("k"))
		second, _ := s.Kids(keyed("k"))
		for i := range first[:cap(first)] {
			first[:cap(first)][i] = keyed("J")
		}
		_ = append(first, keyed("K"))
		is(t, "P0.1: "+kind+": another answer", wordsOf(second), "[a b a c d]")
		is(t, "P0.1: "+kind+": the next answer", kidsTold(s.Kids(keyed("k"))), "[a b a c d]")
		is(t, "P0.1: "+kind+": nothing changes", s.scene(), want)
		s.Piece(1, true)
		s.spoil(keyed("k"))
		call(s, "del k")
		is(t, "P0.1: "+kind+": it stays", wordsOf(second), "[a b a c d]")
	}
}
