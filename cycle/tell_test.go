package cycle_test

import (
	"strconv"
	"testing"

	"gleaner/api"
)

// P19.8: the phase and the epoch behind each piece of a collection.
func TestTell(t *testing.T) {
	w := made(t, usual, 99)
	for _, line := range []string{"put a b c", "root r a", "root s q", "open 9", "pin 9 b", "old m(a,b)"} {
		call(w, line)
	}
	is(t, "P19.8: at rest", told(w.c), "Rest 99 false []")
	w.c.Begin()
	// Roots: 2 and a none. Sessions: 16 nones and a pin. The list: two blobs and a none. Entries: four and a none. Records: four, two of which live, a segment, and the end.
	pieces := []struct {
		phase api.Phase
		count int
	}{{api.Scan, 3 + 17}, {api.Trace, 3}, {api.Sweep, 5}, {api.Move, 4 + 2 + 1 + 1}}
	for _, p := range pieces {
		for n := range p.count {
			is(t, "P19.8: "+phase(p.phase)+", piece "+strconv.Itoa(n), w.c.Phase(), p.phase)
			is(t, "P19.8: the epoch", w.c.Epoch(), 100)
			is(t, "P19.5: Ready", w.c.Ready(), true)
			done, no := w.c.Act()
			is(t, "P19.6: OK", no, api.OK)
			is(t, "P19.6: done", done, p.phase == api.Move && n == p.count-1)
		}
	}
	is(t, "P19.8: behind it", told(w.c), "Rest 100 false []")
}

// P19.8: Grey tells the list from its beginning on, in new memory, spare room included.
func TestGrey(t *testing.T) {
	w := made(t, usual, 0)
	call(w, "old a b c")
	call(w, "Begin")
	is(t, "P19.8: none", len(w.c.Grey()), 0)
	call(w, "Touch c a b")
	call(w, "Born q")
	is(t, "P19.8: from its beginning on", call(w, "Grey"), "[c:0 a:0 b:0 q:0]")
	list := w.c.Grey()
	for i := range list[:cap(list)] {
		list[:cap(list)][i] = api.Grey{Key: api.Key{7}, Next: 9}
	}
	is(t, "P19.8: behind what was written over", call(w, "Grey"), "[c:0 a:0 b:0 q:0]")
	first := w.c.Grey()
	call(w, "Touch d")
	call(w, "Act 19")
	is(t, "P19.8: what was told before", greyed(first), "[c:0 a:0 b:0 q:0]")
	is(t, "P19.8: as it stands now", call(w, "Grey"), "[c:0 a:0]")
}

// P19.8: to be asked changes nothing.
func TestAsked(t *testing.T) {
	w, z := made(t, usual, 0), made(t, usual, 0)
	for _, x := range []*world{w, z} {
		for _, line := range []string{"put a b c", "sweep b", "old m(a,c)", "root r m", "open 1", "pin 1 a", "Begin"} {
			call(x, line)
		}
	}
	for n := 0; z.c.Phase() != api.Rest; n++ {
		for range 3 {
			told(w.c)
		}
		is(t, "P19.8: beside one that is not asked, behind act "+strconv.Itoa(n), scene(w), scene(z))
		w.c.Act()
		z.c.Act()
		if n > 100 {
			t.Fatal("no end")
		}
	}
}
