package frame_test

import (
	"hash/crc32"
	"testing"

	"gleaner/frame"
)

func TestCrcOfKnownBytes(t *testing.T) {
	rising, falling := make([]byte, 32), make([]byte, 32)
	for i := range rising {
		rising[i], falling[i] = byte(i), byte(31-i)
	}
	for _, c := range []struct {
		b    []byte
		want uint32
	}{
		{nil, 0},
		{[]byte{}, 0},
		{[]byte("a"), 0xc1d04330},
		{[]byte("123456789"), 0xe3069283},
		{contents(32)[1], 0x8a9136aa},
		{contents(32)[2], 0x62a8ab43},
		{rising, 0x46dd794e},
		{falling, 0x113fdb5c},
	} {
		if got := frame.Crc(c.b); got != c.want {
			t.Errorf("P6.1: Crc of % x: %08x, want %08x", c.b, got, c.want)
		}
	}
}

func TestCrcIsReckonedBitByBit(t *testing.T) {
	for b := range 256 {
		if got, want := frame.Crc([]byte{byte(b)}), crc([]byte{byte(b)}); got != want {
			t.Errorf("P6.1: Crc of the byte %d: %08x, want %08x", b, got, want)
		}
	}
	lengths := []int{4095, 4096, 4097, 8192, 65526, 65527, 65536, 70001}
	for n := range 300 {
		lengths = append(lengths, n)
	}
	castagnoli := crc32.MakeTable(crc32.Castagnoli)
	for _, n := range lengths {
		for _, b := range contents(n) {
			want := crc(b)
			if other := crc32.Checksum(b, castagnoli); other != want {
				t.Fatalf("the test's own sums of %d bytes: %08x and %08x", n, want, other)
			}
			if got := frame.Crc(b); got != want {
				t.Errorf("P6.1: Crc of %d bytes: %08x, want %08x", n, got, want)
			}
			if got := frame.More(0, b); got != want {
				t.Errorf("P6.1: More of 0 and %d bytes: %08x, want %08x", n, got, want)
			}
		}
	}
}

func TestMoreOfBytesThatAreParted(t *testing.T) {
	for _, n := range []int{0, 1, 2, 3, 4, 5, 9, 64, 255, 700} {
		for _, b := range contents(n) {
			want := crc(b)
			for cut := range n + 1 {
				if got := frame.More(frame.Crc(b[:cut]), b[cut:]); got != want {
					t.Errorf("P6.1: %d bytes, parted at %d: %08x, want %08x", n, cut, got, want)
				}
			}
			sum := uint32(0)
			for _, x := range b {
				sum = frame.More(sum, []byte{x})
			}
			if sum != want {
				t.Errorf("P6.1: %d bytes, one by one: %08x, want %08x", n, sum, want)
			}
		}
	}
}

func TestMoreOfAnySum(t *testing.T) {
	x := dice(61)
	sums := []uint32{0, 1, 0xffffffff, 0xfffffffe, 0x80000000, 0x7fffffff, 0x82f63b78}
	for bit := range 32 {
		sums = append(sums, 1<<bit)
	}
	for range 1000 {
		sums = append(sums, x.word())
	}
	for _, sum := range sums {
		ahead := giving(sum)
		if frame.Crc(ahead) != sum {
			t.Errorf("P6.1: Crc of % x: %08x, want %08x", ahead, frame.Crc(ahead), sum)
		}
		for _, n := range []int{0, 1, 2, 4, 33} {
			b := x.bytes(n)
			if got, want := frame.More(sum, b), crc(append(ahead, b...)); got != want {
				t.Errorf("P6.1: More of %08x and % x: %08x, want %08x", sum, b, got, want)
			}
		}
	}
}

func TestSumsChangeNothing(t *testing.T) {
	for _, n := range []int{0, 1, 9, 300} {
		was := contents(n)[0]
		b := roomy(was)
		first, more := frame.Crc(b), frame.More(77, b)
		if !untouched(b, was) {
			t.Errorf("P0.1: sums of %d bytes changed them, or the room behind them", n)
		}
		if frame.Crc(was) != first || frame.More(77, was) != more {
			t.Errorf("P6.1: sums of the same %d bytes are not the same", n)
		}
	}
}
