package sha

import "gleaner/api"

// Hasher takes bytes piece by piece. Its zero value is ready; a copy goes on apart.
//
// It holds arrays and no slice: an assignment copies all of it, so that a
// Hasher and its copy have no memory in common.
type Hasher struct {
	state   [8]uint32 // behind the blocks that were full
	begun   bool      // whether there was one; size wraps, so it can't tell
	waiting [64]byte  // the bytes that fill no block yet, then zeros
	size    uint64
}

// Write takes further bytes (P2.5).
func (h *Hasher) Write(b []byte) {
	if h == nil {
		return
	}
	at := int(h.size % blockSize)
	h.size += uint64(len(b))
	if at > 0 {
		n := copy(h.waiting[at:], b)
		if at+n < blockSize {
			return
		}
		b = b[n:]
		h.take(h.waiting)
		clear(h.waiting[:]) // they are in the state now, and nobody needs them
	}
	for len(b) >= blockSize {
		h.take([64]byte(b))
		b = b[blockSize:]
	}
	copy(h.waiting[:], b)
}

// take goes on over a full block.
func (h *Hasher) take(block [64]byte) {
	if !h.begun {
		h.state, h.begun = Start(), true
	}
	h.state = Block(h.state, block)
}

// Sum is the digest of all that was taken (P2.5).
func (h *Hasher) Sum() api.Key {
	if h == nil {
		return api.Key{}
	}
	end := *h // h itself has to stay as it is
	end.Write(Tail(h.size))
	return laid(end.state)
}

// Len is how many bytes were taken (P2.5).
func (h *Hasher) Len() uint64 {
	if h == nil {
		return 0
	}
	return h.size
}
