package frame_test

import (
	"bytes"
	"slices"
	"testing"

	"gleaner/api"
	"gleaner/frame"
)

// dice throws numbers that look like chance and are the same in each run.
type dice uint64

func (x *dice) throw(n int) int {
	*x = *x*6364136223846793005 + 1442695040888963407
	return int(uint64(*x)>>33) % n
}

func (x *dice) bytes(n int) []byte {
	b := make([]byte, n)
	for i := range b {
		b[i] = byte(x.throw(256))
	}
	return b
}

func (x *dice) word() uint32 { return uint32(x.throw(1<<16))<<16 | uint32(x.throw(1<<16)) }

// contents are n bytes of chance, of zeros and of greatest ones.
func contents(n int) [][]byte {
	x := dice(n + 1)
	return [][]byte{x.bytes(n), make([]byte, n), bytes.Repeat([]byte{255}, n)}
}

// rolled is a register behind some bytes, bit by bit.
func rolled(register uint32, b []byte) uint32 {
	for _, x := range b {
		register ^= uint32(x)
		for range 8 {
			low := register % 2
			register /= 2
			if low == 1 {
				register ^= 0x82f63b78
			}
		}
	}
	return register
}

// crc is the chapter's CRC-32C by its words.
func crc(b []byte) uint32 { return rolled(0xffffffff, b) ^ 0xffffffff }

// giving is four bytes whose CRC-32C is sum: the register is rolled back from its end.
func giving(sum uint32) []byte {
	register := sum ^ 0xffffffff
	for range 32 {
		// Only the xor sets the highest bit, which a move has left 0.
		if register>>31 == 1 {
			register = (register^0x82f63b78)<<1 | 1
		} else {
			register <<= 1
		}
	}
	x := register ^ 0xffffffff
	return []byte{byte(x), byte(x >> 8), byte(x >> 16), byte(x >> 24)}
}

// record is the chapter's record of a body, with a right sum; n is what its head says of the body's length.
func record(n int, body []byte) []byte {
	return sealed([6]byte{0xc7, byte(n % 256), byte(n / 256), byte((65535 - n) % 256), byte((65535 - n) / 256), 1}, body)
}

// sealed is these six bytes, the sum that is right for them and the body, and the body.
func sealed(ahead [6]byte, body []byte) []byte {
	sum := crc(append(ahead[:], body...))
	head := append(ahead[:], byte(sum), byte(sum>>8), byte(sum>>16), byte(sum>>24))
	return append(head, body...)
}

func pack(t *testing.T, body []byte) []byte {
	t.Helper()
	b, no := frame.Pack(body)
	if no != api.OK {
		t.Fatalf("P6.2: Pack of %d bytes: %d", len(body), no)
	}
	return b
}

// opened holds Unpack's answer against a body that is to be there.
func opened(t *testing.T, what string, b []byte, at int, want []byte) {
	t.Helper()
	body, size, no := frame.Unpack(b, at)
	if !bytes.Equal(body, want) || size != len(want)+10 || no != api.OK {
		t.Errorf("%s: %q, %d, %d; want %q, %d, 0", what, short(body), size, no, short(want), len(want)+10)
	}
}

// refused holds Unpack's answer against an error, beside which nothing else is told.
func refused(t *testing.T, what string, b []byte, at int, want api.Errno) {
	t.Helper()
	if body, size, no := frame.Unpack(b, at); len(body) != 0 || size != 0 || no != want {
		t.Errorf("%s: %q, %d, %d; want nothing, 0, %d", what, short(body), size, no, want)
	}
}

// short is what a failure tells of bytes.
func short(b []byte) string {
	if len(b) > 24 {
		return string(b[:24]) + ".."
	}
	return string(b)
}

// told is one thing that All tells.
type told struct {
	at   int
	body string
}

// walked is all that a walk tells.
func walked(walk func(func(int, []byte) bool)) []told {
	var out []told
	for at, body := range walk {
		out = append(out, told{at, string(body)})
	}
	return out
}

// laid is the records of some bodies, one behind the other, and what All is to tell of them.
func laid(bodies ...string) (b []byte, want []told) {
	for _, body := range bodies {
		want = append(want, told{len(b), body})
		b = append(b, record(len(body), []byte(body))...)
	}
	return b, want
}

// roomy is a copy of b with spare room behind it that has marks in it.
func roomy(b []byte) []byte {
	return append(slices.Clone(b), "spare room"...)[:len(b)]
}

// untouched tells whether b and the spare room behind it are as roomy(was) made them.
func untouched(b, was []byte) bool {
	return string(b[:len(b)+10]) == string(was)+"spare room"
}

// scribble writes over all of b, spare room included.
func scribble(b []byte) {
	b = b[:cap(b)]
	for i := range b {
		b[i] ^= 0x5A
	}
}
