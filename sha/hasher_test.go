package sha_test

import (
	"bytes"
	"crypto/sha256"
	"slices"
	"testing"

	"gleaner/api"
	"gleaner/sha"
)

// wantTaken: the Hasher has taken just these bytes, and asking changes nothing.
func wantTaken(t *testing.T, what string, h *sha.Hasher, b []byte) {
	t.Helper()
	for range 2 {
		wantKey(t, what, h.Sum(), sha256.Sum256(b))
		wantKey(t, what+", held against Sum", h.Sum(), sha.Sum(b))
		if h.Len() != uint64(len(b)) {
			t.Errorf("%s: Len %d, want %d", what, h.Len(), len(b))
		}
	}
}

// P2.5: the example.
func TestHasherOfTheExample(t *testing.T) {
	var h sha.Hasher
	h.Write([]byte("ab"))
	other := h
	other.Write([]byte("x"))
	h.Write([]byte("c"))
	wantTaken(t, "P2.5: the first", &h, []byte("abc"))
	wantTaken(t, "P2.5: the copy", &other, []byte("abx"))
}

// P2.5.
func TestZeroHasherHasTakenNothing(t *testing.T) {
	var h sha.Hasher
	wantTaken(t, "P2.5: a zero Hasher", &h, nil)
	h.Write(nil)
	h.Write([]byte{})
	wantTaken(t, "P2.5: a Hasher that was given nothing", &h, nil)
	h.Write(make([]byte, 100))
	wantTaken(t, "P2.5: a Hasher behind its first bytes", &h, make([]byte, 100))
	h = sha.Hasher{}
	wantTaken(t, "P2.5: a Hasher made zero again", &h, nil)
	h.Write([]byte("abc"))
	wantTaken(t, "P2.5: a Hasher made zero again, and written to", &h, []byte("abc"))
	wantTaken(t, "P2.5: a new Hasher", new(sha.Hasher), nil)
}

// P2.5.
func TestNilHasher(t *testing.T) {
	var h *sha.Hasher
	for _, n := range []int{0, 1, 64, 200} {
		h.Write(make([]byte, n))
		if h.Sum() != (api.Key{}) || h.Len() != 0 {
			t.Errorf("P2.5: a nil Hasher behind a Write of %d bytes: %x, %d", n, h.Sum(), h.Len())
		}
	}
}

// P2.5: Write, Sum and Len in turns, with parts that end in the midst of a block and at its end.
func TestHasherInTurns(t *testing.T) {
	x := dice(4)
	var h sha.Hasher
	var all []byte
	for _, n := range []int{1, 62, 1, 64, 128, 30, 34, 0, 63, 2, 63, 55, 9, 56, 8, 65, 127, 129, 7, 500} {
		part := x.bytes(n)
		h.Write(part)
		all = append(all, part...)
		wantTaken(t, "P2.5: a Hasher in turns", &h, all)
	}
}

// P2.5: a byte at a time, asked behind each of them.
func TestHasherByteByByte(t *testing.T) {
	all := (new(dice)).bytes(300)
	var h sha.Hasher
	for i := range all {
		h.Write(all[i : i+1])
		wantTaken(t, "P2.5: a Hasher byte by byte", &h, all[:i+1])
	}
}

// P2.5: the list is not changed, the room behind it included, and not kept.
func TestWriteLeavesTheListAsItWas(t *testing.T) {
	x := dice(5)
	for _, ahead := range []int{0, 1, 40, 63, 64} {
		for _, n := range []int{0, 1, 23, 24, 55, 63, 64, 65, 200} {
			first := x.bytes(ahead)
			room := x.bytes(n + 100)
			was := slices.Clone(room)
			var h sha.Hasher
			h.Write(first)
			h.Write(room[:n])
			wantTaken(t, "P2.5: a Hasher", &h, append(first, was[:n]...))
			if !bytes.Equal(room, was) {
				t.Errorf("P2.5: a Write of %d bytes behind %d changed the list or the room behind it", n, ahead)
			}
			clear(room)
			wantTaken(t, "P2.5: a Hasher whose list was written over", &h, append(first, was[:n]...))
		}
	}
}

// P2.5 and P2.6: a copy and the one that it was copied from go on apart, whichever is written to first.
func TestCopyGoesOnApart(t *testing.T) {
	x := dice(6)
	for _, ahead := range []int{0, 1, 31, 55, 56, 63, 64, 65, 100, 128, 200} {
		for _, n := range []int{0, 1, 9, 63, 64, 65, 150} {
			first, left, right := x.bytes(ahead), x.bytes(n), x.bytes(n+1)
			for _, copyFirst := range []bool{false, true} {
				var h sha.Hasher
				h.Write(first)
				other := h
				wantTaken(t, "P2.5: a copy", &other, first)
				if copyFirst {
					other.Write(right)
					wantTaken(t, "P2.5: the first, behind a Write to its copy", &h, first)
					h.Write(left)
				} else {
					h.Write(left)
					wantTaken(t, "P2.5: the copy, behind a Write to the first", &other, first)
					other.Write(right)
				}
				wantTaken(t, "P2.6: the first", &h, slices.Concat(first, left))
				wantTaken(t, "P2.6: the copy", &other, slices.Concat(first, right))
			}
		}
	}
}

// P2.6: every way to part a list in two, and in three.
func TestEveryWayToPartAList(t *testing.T) {
	all := (new(dice)).bytes(150)
	want := sha.Sum(all)
	for i := range len(all) + 1 {
		for j := i; j <= len(all); j++ {
			var h sha.Hasher
			h.Write(all[:i])
			h.Write(all[i:j])
			h.Write(all[j:])
			if h.Sum() != want || h.Len() != 150 {
				t.Errorf("P2.6: parted at %d and %d: %x, %d", i, j, h.Sum(), h.Len())
			}
		}
	}
}

// P2.6: lists parted as dice say, empty parts too, with copies taken on the way.
func TestPartsAndCopiesByDice(t *testing.T) {
	x := dice(7)
	for range 300 {
		var h sha.Hasher
		var all []byte
		for range x.throw(12) {
			part := x.bytes(x.throw(4) * x.throw(60))
			h.Write(part)
			all = append(all, part...)
			fork, others := h, x.bytes(x.throw(130))
			fork.Write(others)
			wantTaken(t, "P2.6: a copy with other bytes", &fork, slices.Concat(all, others))
		}
		wantTaken(t, "P2.6: all parts", &h, all)
	}
}

// P2.6: a copy of a copy, and a Hasher put back to where its copy was taken.
func TestCopyOfACopy(t *testing.T) {
	x := dice(8)
	first, second, third := x.bytes(70), x.bytes(30), x.bytes(90)
	var h sha.Hasher
	h.Write(first)
	mark := h
	h.Write(second)
	again := h
	again.Write(third)
	h = mark
	wantTaken(t, "P2.6: put back", &h, first)
	h.Write(third)
	wantTaken(t, "P2.6: put back, and written to", &h, slices.Concat(first, third))
	wantTaken(t, "P2.6: the copy of then", &mark, first)
	wantTaken(t, "P2.6: the copy of later", &again, slices.Concat(first, second, third))
}
