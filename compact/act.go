package compact

import (
	"gleaner/api"
	"gleaner/frame"
	"gleaner/key"
)

// glance is how many bytes of a record are read at first.
const glance = 256

// record is one that stands in the present segment.
type record struct {
	key   api.Key // of its body
	bytes []byte  // all of it
}

// present is what the arena knows of the present segment.
func (m *Mover) present() api.Segment { return m.arena.Segments()[m.row[0]] }

// behind tells whether the mover reads behind the last used byte of the present segment.
func (m *Mover) behind() bool { return len(m.row) > 0 && m.off >= m.present().Used }

// next is the record at the place at which the mover reads; false: none stands there, or it is written already.
func (m *Mover) next() (record, bool) {
	if m.due || len(m.row) == 0 {
		return record{}, false
	}
	rest := m.present().Used - m.off
	// As long as the record is cut short more is read, so that an act costs what a record does, not what a segment does.
	for n := min(glance, rest); ; n = min(2*n, rest) {
		b, _ := m.arena.Read(m.At(), n)
		body, size, no := frame.Unpack(b, 0)
		if no == api.OK {
			return record{key.Of(body), b[:size]}, true
		}
		if no != api.ErrShort || n == rest {
			return record{}, false
		}
	}
}

// lives tells whether the index has the place at which the mover reads under the key of the record there.
func (m *Mover) lives(r record) bool {
	e, ok := m.index.Get(r.key)
	return ok && e.Place == m.At()
}

// write writes a record once more, at the mover's end.
func (m *Mover) write(r record) {
	size := len(r.bytes)
	at, no := m.arena.ReserveDest(size)
	if no != api.OK {
		m.giveUp()
		return
	}
	m.arena.Write(at, r.bytes)
	m.due, m.key, m.to = true, r.key, api.Room{Place: at, Size: size}
}

// turn turns the index to the record that was written, if it has the old place still.
func (m *Mover) turn() {
	old := m.At()
	moved := m.index.Move(m.key, old, m.to.Place)
	m.arena.Settle(m.to.Place, m.to.Size, moved)
	if moved {
		m.arena.Dead(old, m.to.Size)
		m.moved++
	}
	m.off += m.to.Size
	m.due, m.key, m.to = false, api.Key{}, api.Room{}
}

// free frees the present segment, as soon as nobody holds it.
func (m *Mover) free() {
	if m.present().Held > 0 {
		return
	}
	if m.arena.Free(m.row[0]) != api.OK {
		m.giveUp()
		return
	}
	m.freed++
	m.leave()
}

// giveUp lets the present segment be as it is.
func (m *Mover) giveUp() {
	m.left++
	m.leave()
}

// leave makes the segment that follows the present one.
func (m *Mover) leave() { m.row, m.off = m.row[1:], 0 }

// finish hands the mover's segment on.
func (m *Mover) finish() {
	m.arena.Finish()
	m.done = true
}
