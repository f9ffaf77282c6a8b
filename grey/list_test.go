package grey_test

import (
	"slices"
	"strconv"
	"testing"

	"gleaner/api"
)

// P15.5: New; Push of a key, of another one, of the same again; Top and Bottom of none, one, two.
func TestPushList(t *testing.T) {
	bothLists(t, "P15.5", `
		Len                 | 0
		All                 | []
		Top                 | -
		Bottom              | -
		Push a              | 1
		Top                 | a0
		Bottom              | a0
		All                 | [a0]
		Push b              | 2
		Top                 | b0
		Bottom              | a0
		All                 | [a0 b0]
		Push a              | 3
		Top                 | a0
		Bottom              | a0
		All                 | [a0 b0 a0]
		Push a a            | 4 5
		All                 | [a0 b0 a0 a0 a0]`)
}

// P15.5: a key that stands there with another Next is pushed with Next 0; both go their ways.
func TestPushAgain(t *testing.T) {
	bothLists(t, "P15.5: again", `
		Push a              | 1
		Bump top top        | a1[a1] a2[a2]
		Push a              | 2
		All                 | [a2 a0]
		Bump top            | a1[a2 a1]
		Bump bottom         | a3[a3 a1]
		Pop bottom          | a3[a1]
		Push a              | 2
		All                 | [a1 a0]`)
}

// P15.5: the zero key is a key.
func TestZeroKey(t *testing.T) {
	l := madeList(t)
	l.Push(api.Key{})
	is(t, "P15.5: the zero key", seen(l), "Len 1, Bottom 00, Top 00, All [00]")
	g, ok := l.Bump(false)
	is(t, "P15.6: the zero key", toldGrey(g, ok), "01")
	g, ok = l.Pop(true)
	is(t, "P15.6: the zero key", toldGrey(g, ok), "01")
	is(t, "P15.6: behind it", seen(l), "Len 0, Bottom -, Top -, All []")
}

// P15.6: Bump at both ends, of none, of one alone, of more.
func TestBump(t *testing.T) {
	bothLists(t, "P15.6: Bump", `
		Bump top bottom     | -[] -[]
		Push a              | 1
		Bump top bottom top | a1[a1] a2[a2] a3[a3]
		Top                 | a3
		Bottom              | a3
		Push b              | 2
		Bump top            | b1[a3 b1]
		Bump bottom         | a4[a4 b1]
		Push c              | 3
		Bump top top bottom | c1[a4 b1 c1] c2[a4 b1 c2] a5[a5 b1 c2]
		Top                 | c2
		Bottom              | a5
		Pop top             | c2[a5 b1]
		Bump top            | b2[a5 b2]
		Pop bottom          | a5[b2]
		Bump bottom         | b3[b3]
		Pop top             | b3[]
		Bump bottom top     | -[] -[]
		Len                 | 0`)
}

// P15.6: Pop at both ends until there is none, and once more.
func TestPopList(t *testing.T) {
	bothLists(t, "P15.6: Pop", `
		Pop top bottom      | -[] -[]
		Push a b c d        | 1 2 3 4
		Bump bottom         | a1[a1 b0 c0 d0]
		Pop top             | d0[a1 b0 c0]
		Len                 | 3
		Pop bottom          | a1[b0 c0]
		Len                 | 2
		Pop bottom          | b0[c0]
		Len                 | 1
		Pop top top bottom  | c0[] -[] -[]
		Len                 | 0
		Push e              | 1
		All                 | [e0]
		Pop bottom bottom   | e0[] -[]
		Push f g            | 1 2
		Pop top top top     | g0[f0] f0[] -[]`)
}

// P15.6: very many times, of a list that goes round the end of its memory.
func TestBumpOften(t *testing.T) {
	l := madeList(t)
	for _, k := range "xyabc" {
		l.Push(keyed(byte(k)))
	}
	l.Pop(true)
	l.Pop(true)
	l.Push(keyed('d'))
	l.Push(keyed('e'))
	l.Push(keyed('f'))
	for n := range 70000 {
		top, a := l.Bump(false)
		bottom, b := l.Bump(true)
		if !a || !b || top != (api.Grey{Key: keyed('f'), Next: n + 1}) || bottom != (api.Grey{Key: keyed('a'), Next: n + 1}) {
			t.Fatalf("P15.6: Bump number %d: %s, %s", n, greyed(top), greyed(bottom))
		}
	}
	is(t, "P15.6: behind all", seen(l), "Len 6, Bottom a70000, Top f70000, All [a70000 b0 c0 d0 e0 f70000]")
}

// P15.5, P15.6: many keys.
func TestListMany(t *testing.T) {
	l, like := madeList(t), &plainList{}
	for i := range 300 {
		for _, x := range []asks{l, like} {
			x.Push(keyed(byte(i*i + 1)))
			x.Bump(i%2 == 0)
			if i%4 == 3 {
				x.Pop(i%8 == 3)
			}
		}
		if !slices.Equal(l.All(), like.All()) || l.Len() != like.Len() {
			t.Fatalf("P15.6: behind number %d: %s, not %s", i, seen(l), seen(like))
		}
	}
	for i := range like.Len() + 1 {
		bottom := i%3 == 0
		got, ok := l.Pop(bottom)
		want, wants := like.Pop(bottom)
		if got != want || ok != wants || l.Len() != like.Len() {
			t.Fatalf("P15.6: Pop number %d: %s", i, toldGrey(got, ok))
		}
	}
}

// P15.6, P0.1: the list that All answered is written over and grown, spare room included; the work list is as it was, and so is another answer.
func TestListWrittenOver(t *testing.T) {
	for n := range 9 {
		l, like := madeList(t), &plainList{}
		for i := range n + 2 {
			for _, x := range []asks{l, like} {
				x.Push(keyed(byte('a' + i)))
				if i%3 == 2 {
					x.Bump(true)
					x.Pop(true)
				}
			}
		}
		label := "P15.6: " + strconv.Itoa(like.Len()) + " of them"
		first, second := l.All(), l.All()
		_ = append(first, api.Grey{Next: 5}, api.Grey{Next: 6})
		alike(t, label+": grown", l, like)
		first = first[:cap(first)]
		for i := range first {
			first[i] = api.Grey{Key: keyed('J'), Next: 9}
		}
		alike(t, label+": written over", l, like)
		is(t, label+": another answer", slices.Equal(second, like.All()), true)
		for _, x := range []asks{l, like} {
			x.Push(keyed('z'))
			x.Bump(true)
		}
		alike(t, label+": and pushed onto", l, like)
	}
}

// P0.1: what All answered stays as it was, whatever is done later.
func TestListStays(t *testing.T) {
	l := madeList(t)
	ask(l, "Push a b c d")
	got := l.All()
	for _, line := range []string{"Bump top bottom", "Pop bottom", "Push e f g h", "Pop top top top", "Bump bottom", "Pop bottom bottom bottom"} {
		ask(l, line)
		var words []string
		for _, g := range got {
			words = append(words, greyed(g))
		}
		is(t, "P0.1: behind "+line, slices.Equal(words, texts("a0 b0 c0 d0")), true)
	}
}

// P0.1: two work lists, changed in turns.
func TestListsApart(t *testing.T) {
	x, y := madeList(t), madeList(t)
	ask(x, "Push a b")
	ask(y, "Push a c d")
	ask(x, "Bump top bottom")
	ask(y, "Pop bottom")
	is(t, "P0.1: one", seen(x), "Len 2, Bottom a1, Top b1, All [a1 b1]")
	is(t, "P0.1: the other", seen(y), "Len 2, Bottom c0, Top d0, All [c0 d0]")
	is(t, "P0.1: a new one", seen(madeList(t)), "Len 0, Bottom -, Top -, All []")
}
