package wire

import "gleaner/api"

// Dec is what is taken from. A zero one has no bytes.
type Dec struct {
	bytes []byte // never written to, so copies of a Dec may share them
	at    int
	fault Fault // of a Dec that is stopped; else its Code is OK
}

// Open stands at the first byte (P1.4).
func Open(b []byte) *Dec {
	own := make([]byte, len(b))
	copy(own, b)
	return &Dec{bytes: own}
}

// over tells whether nothing can be taken any more.
func (d *Dec) over() bool { return d == nil || d.fault.Code != api.OK }

// stop ends all taking, with what was wrong first.
func (d *Dec) stop(at int, code api.Errno) {
	if !d.over() {
		d.fault = Fault{At: at, Code: code}
	}
}

// number takes a number; false: it could not.
func (d *Dec) number(most uint64) (uint64, bool) {
	if d.over() {
		return 0, false
	}
	v, n, code := first(d.bytes[d.at:])
	if code == api.OK && v > most {
		code = api.ErrBeyond
	}
	if code != api.OK {
		d.stop(d.at, code)
		return 0, false
	}
	d.at += n
	return v, true
}

// first is the number at the beginning of some bytes, and how many it takes.
func first(b []byte) (uint64, int, api.Errno) {
	var v uint64
	for i, c := range b {
		if i == maxVar-1 && c > 1 {
			return 0, 0, api.ErrForm
		}
		v |= uint64(c&127) << (7 * i)
		if c < 128 {
			if c == 0 && i > 0 {
				return 0, 0, api.ErrForm
			}
			return v, i + 1, api.OK
		}
	}
	return 0, 0, api.ErrEnds
}

// next takes n bytes for the take that began at start; false: it could not.
// What it answers are the Dec's own bytes: they are not to be handed out.
func (d *Dec) next(start, n int) ([]byte, bool) {
	if d.over() {
		return nil, false
	}
	if n > len(d.bytes)-d.at {
		d.stop(start, api.ErrEnds)
		return nil, false
	}
	b := d.bytes[d.at : d.at+n]
	d.at += n
	return b, true
}

// Var takes a number, most at the most (P1.5).
func (d *Dec) Var(most uint64) uint64 {
	v, _ := d.number(most)
	return v
}

// Text takes a text, of most bytes at the most (P1.5).
func (d *Dec) Text(most int) string {
	start := d.At()
	n, ok := d.number(bound(most))
	if !ok {
		return ""
	}
	b, _ := d.next(start, int(n))
	return string(b)
}

// Raw takes so many bytes (P1.5).
func (d *Dec) Raw(n int) []byte {
	b, ok := d.next(d.At(), max(n, 0))
	if !ok {
		return nil
	}
	out := make([]byte, len(b))
	copy(out, b)
	return out
}

// Key takes a key (P1.5).
func (d *Dec) Key() api.Key {
	b, ok := d.next(d.At(), len(api.Key{}))
	if !ok {
		return api.Key{}
	}
	return api.Key(b)
}

// At tells where it stands (P1.7).
func (d *Dec) At() int {
	if d == nil {
		return 0
	}
	if d.over() {
		return d.fault.At
	}
	return d.at
}

// Left tells how many bytes stand from there to the end (P1.7).
func (d *Dec) Left() int {
	if d.over() {
		return 0
	}
	return len(d.bytes) - d.at
}

// End tells what went wrong first, or that bytes are left over (P1.7).
func (d *Dec) End() error {
	switch {
	case d == nil:
		return Fault{Code: api.ErrNil}
	case d.over():
		return d.fault
	case d.Left() > 0:
		return Fault{At: d.at, Code: api.ErrLeft}
	}
	return nil
}

// Take takes a number of as many bytes as it has (P1.5).
func Take[N Whole](d *Dec) N {
	b, _ := d.next(d.At(), width[N]())
	var wide uint64
	for i, c := range b {
		wide |= uint64(c) << (8 * i)
	}
	return N(wide)
}

// Each takes how many there are, most at the most, and then each of them (P1.6).
func Each[T any](d *Dec, most int, one func(*Dec) T) []T {
	if one == nil {
		d.stop(d.At(), api.ErrNil)
		return nil
	}
	// The list grows by what was taken: a count alone must not cost memory.
	var list []T
	for n := d.Var(bound(most)); n > 0 && !d.over(); n-- {
		list = append(list, one(d))
	}
	if d.over() {
		return nil
	}
	return list
}
