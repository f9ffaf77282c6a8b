package bloom_test

import (
	"bytes"
	"fmt"
	"slices"
	"testing"

	"gleaner/api"
	"gleaner/bloom"
)

// Each bit by itself, in the byte and of the value that the chapter says.
func TestBytesOfEachBit(t *testing.T) {
	for _, bits := range []int{64, 128, 192} {
		for place := range bits {
			f := fresh(t, bits, 3)
			f.Add(at(place))
			want := make([]byte, 3+bits/8)
			want[0], want[1] = 3, byte(bits/64)
			want[3+place/8] = 1 << (place % 8)
			if got := f.Bytes(); !bytes.Equal(got, want) {
				t.Errorf("P7.7: bit %d of %d: % x, want % x", place, bits, got, want)
			}
		}
	}
}

func TestBytesOfTheGreatest(t *testing.T) {
	for _, c := range []struct {
		bits int
		head [3]byte
	}{{64, [3]byte{9, 1, 0}}, {128, [3]byte{9, 2, 0}}, {255 * 64, [3]byte{9, 255, 0}}, {256 * 64, [3]byte{9, 0, 1}}, {258 * 64, [3]byte{9, 2, 1}}, {api.MaxBits, [3]byte{9, 0, 64}}} {
		f := fresh(t, c.bits, 9)
		want := append(c.head[:], make([]byte, c.bits/8)...)
		for _, place := range []int{0, 1, 8, 31, 63, c.bits/2 + 9, c.bits - 64, c.bits - 2, c.bits - 1} {
			if f.Add(at(place)) {
				want[3+place/8] += 1 << (place % 8)
			}
		}
		if got := f.Bytes(); !bytes.Equal(got, want) {
			t.Errorf("P7.7: %d bits: %d bytes, % x ..", c.bits, len(got), got[:11])
		}
	}
}

func TestOpenAndBack(t *testing.T) {
	x := dice(83)
	for _, bits := range []int{64, 128, 192, 640, 64 * 256, 64 * 257, 1048512, api.MaxBits} {
		for _, hashes := range []int{1, 2, 15, 16} {
			for _, in := range []int{1, 2, 100, 1 << 30} {
				if bits > 1<<16 && hashes%2 == 1 {
					continue
				}
				m := some(&x, bits, hashes, in)
				f := opened(t, m.bytes())
				m.like(t, fmt.Sprintf("%d bits, %d hashes, one in %d", bits, hashes, in), f)
				k := x.key()
				if had, add := m.has(k), m.add(k); f.Has(k) != had || f.Add(k) != add || !bytes.Equal(f.Bytes(), m.bytes()) {
					t.Errorf("P7.7: %d bits, %d hashes, one in %d: a key added behind Open", bits, hashes, in)
				}
				if g := fresh(t, bits, hashes); g.Join(f) != api.OK || !bytes.Equal(g.Bytes(), m.bytes()) {
					t.Errorf("P7.7: %d bits, %d hashes, one in %d: joined behind Open", bits, hashes, in)
				}
			}
		}
	}
}

func refused(t *testing.T, what string, b []byte) {
	t.Helper()
	if f, no := bloom.Open(b); f != nil || no != api.ErrFilter {
		t.Errorf("P7.7: Open of %s: %v, %d, want nil, ErrFilter", what, f, no)
	}
}

// body is a head with so many bytes behind it.
func body(hashes, words, n int) []byte {
	return append([]byte{byte(hashes), byte(words), byte(words >> 8)}, bytes.Repeat([]byte{0xA5}, n)...)
}

func TestOpenOfTooFewAndTooMany(t *testing.T) {
	refused(t, "nil", nil)
	refused(t, "no bytes", []byte{})
	for _, words := range []int{1, 2, 256} {
		for n := range 8*words + 20 {
			if n != 8*words {
				refused(t, fmt.Sprintf("%d words in %d bytes", words, n), body(2, words, n))
			}
		}
		opened(t, body(2, words, 8*words))
		for n := range 3 {
			refused(t, fmt.Sprintf("%d bytes of the head", n), body(2, words, 0)[:n])
		}
	}
	for _, n := range []int{0, 1, 131071, 131073, 131080, 262144} {
		refused(t, fmt.Sprintf("16384 words in %d bytes", n), body(2, 16384, n))
	}
	opened(t, body(2, 16384, 131072))
	// The room behind the bytes is no part of them.
	refused(t, "a filter's bytes that are cut", body(2, 1, 8)[:10])
}

func TestOpenOfWrongShapes(t *testing.T) {
	for hashes := range 256 {
		for _, words := range []int{1, 3} {
			if b := body(hashes, words, 8*words); hashes < 1 || hashes > 16 {
				refused(t, fmt.Sprintf("%d hashes", hashes), b)
			} else if bits, h := opened(t, b).Shape(); bits != 64*words || h != hashes {
				t.Errorf("P7.7: Open of %d words, %d hashes: %d, %d", words, hashes, bits, h)
			}
		}
	}
	for _, words := range []int{0, 16385, 16386, 16384 + 256, 32768, 32769, 65535} {
		for _, hashes := range []int{0, 1, 16, 17} {
			refused(t, fmt.Sprintf("%d words", words), body(hashes, words, 8*words))
			refused(t, fmt.Sprintf("%d words, and nothing", words), body(hashes, words, 0))
			refused(t, fmt.Sprintf("%d words, and eight bytes", words), body(hashes, words, 8))
		}
	}
}

// Whatever is opened tells just these bytes.
func TestOpenOfChance(t *testing.T) {
	x := dice(84)
	yes := 0
	for range 20000 {
		b := make([]byte, []int{0, 1, 2, 3, 4, 10, 11, 12, 19, 27}[x.throw(10)])
		for i := range b {
			b[i] = byte(x.throw(256))
		}
		// Heads of chance would hardly ever be right.
		copy(b, []byte{byte(x.throw(20)), byte(x.throw(4)), byte(x.throw(9) / 8)}[:3-x.throw(6)/5])
		f, no := bloom.Open(b)
		fits := len(b) > 3 && 1 <= b[0] && b[0] <= 16 && len(b) == 3+8*(int(b[1])+256*int(b[2]))
		if fits != (no == api.OK) || fits != (f != nil) || !fits && no != api.ErrFilter {
			t.Fatalf("P7.7: Open(% x): %d", b, no)
		}
		if fits {
			yes++
			if !bytes.Equal(f.Bytes(), b) {
				t.Fatalf("P7.7: Open(% x) tells % x", b, f.Bytes())
			}
		}
	}
	if yes < 100 {
		t.Errorf("the test's own bytes: %d are a filter's", yes)
	}
}

func TestBytesAreNewMemory(t *testing.T) {
	x := dice(85)
	for _, bits := range []int{64, 128, 192, 4096, api.MaxBits} {
		m := some(&x, bits, 2, 3)
		f := m.filter(t)
		first, second := f.Bytes(), f.Bytes()
		was := slices.Clone(first)
		scribble(first)
		if !bytes.Equal(second, was) || !bytes.Equal(f.Bytes(), was) {
			t.Errorf("P0.1: %d bits: what is written over Bytes shows in the filter or in what was told before", bits)
		}
		empty := 0
		for m.set[empty] {
			empty++
		}
		if !f.Add(at(empty)) || !bytes.Equal(second, was) {
			t.Errorf("P0.1: %d bits: a key that is added shows in what Bytes told before", bits)
		}
	}
}

func TestOpenKeepsAndChangesNothing(t *testing.T) {
	x := dice(86)
	for _, bits := range []int{64, 128, 192, 4096, api.MaxBits} {
		m := some(&x, bits, 2, 3)
		was := m.bytes()
		b := roomy(was)
		f, g := opened(t, b), opened(t, b)
		empty := 0
		for m.set[empty] {
			empty++
		}
		if !f.Add(at(empty)) || g.Has(at(empty)) || !untouched(b, was) {
			t.Errorf("P0.1: %d bits: a key that is added shows in the bytes that were handed in or in another filter", bits)
		}
		scribble(b)
		m.like(t, "its bytes written over", g)
	}
	for _, wrong := range [][]byte{nil, {0}, {2, 1, 0, 1}, body(17, 1, 8), body(1, 1, 9), body(1, 0, 0)} {
		b := roomy(wrong)
		refused(t, "what is no filter", b)
		if !untouched(b, wrong) {
			t.Errorf("P0.1: Open(% x) changed what was handed in", wrong)
		}
	}
}
