package wire

import "gleaner/api"

// blockSize is how many bytes an assignment of an Enc copies at the most.
const blockSize = 256

// block is bytes that were added and are never written to again, so that
// copies of an Enc may share it.
type block struct {
	before *block
	bytes  [blockSize]byte
}

// Enc is what is added to. A zero one is ready.
//
// The bytes that fill no block yet lie in an array: an assignment copies them,
// so an Enc and its copy have no memory in common that either writes to.
type Enc struct {
	full *block // the last one that is full
	tail [blockSize]byte
	size int // of all blocks and the tail
}

// Var adds a number, seven bits a byte (P1.2).
func (e *Enc) Var(v uint64) {
	var b [maxVar]byte
	n := 0
	for v >= 128 {
		b[n] = byte(v) | 128
		v >>= 7
		n++
	}
	b[n] = byte(v)
	e.Raw(b[:n+1])
}

// Text adds a text with its length ahead (P1.2).
func (e *Enc) Text(s string) {
	e.Var(uint64(len(s)))
	e.Raw([]byte(s))
}

// Raw adds bytes as they are (P1.2).
func (e *Enc) Raw(b []byte) {
	if e == nil {
		return
	}
	for len(b) > 0 {
		n := copy(e.tail[e.size%blockSize:], b)
		b = b[n:]
		e.size += n
		if e.size%blockSize == 0 {
			e.full = &block{before: e.full, bytes: e.tail}
		}
	}
}

// Key adds a key's bytes (P1.2).
func (e *Enc) Key(k api.Key) { e.Raw(k[:]) }

// Len tells how many bytes there are (P1.3).
func (e *Enc) Len() int {
	if e == nil {
		return 0
	}
	return e.size
}

// Bytes tells them (P1.3).
func (e *Enc) Bytes() []byte {
	if e == nil {
		return nil
	}
	out := make([]byte, e.size)
	at := e.size - e.size%blockSize
	copy(out[at:], e.tail[:])
	for b := e.full; b != nil; b = b.before {
		at -= blockSize
		copy(out[at:], b.bytes[:])
	}
	return out
}

// Put adds a number in as many bytes as it has, the lowest first (P1.2).
func Put[N Whole](e *Enc, v N) {
	var b [8]byte
	n := width[N]()
	// A signed number is widened with its sign, so its low bytes stay the same.
	wide := uint64(v)
	for i := range n {
		b[i] = byte(wide >> (8 * i))
	}
	e.Raw(b[:n])
}
