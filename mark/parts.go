package mark

import (
	"gleaner/api"
	"gleaner/arena"
	"gleaner/grey"
	"gleaner/index"
	"gleaner/made"
)

// Marker marks what can be come to. It has of its parts what it asks of them alone, so that it can be tried over others.
type Marker struct {
	read  func(at api.Place, n int) ([]byte, api.Errno) // what reads a record; nil: New did not make the marker, and it is as a nil one
	index entries
	list  row
}

// entries is what a marker asks of an index.
type entries interface {
	Get(k api.Key) (api.Entry, bool)
	Mark(k api.Key, epoch uint32) bool
}

// row is what it asks of a work list.
type row interface {
	Push(k api.Key)
	Top() (api.Grey, bool)
	Bottom() (api.Grey, bool)
	Bump(bottom bool) (api.Grey, bool)
	Pop(bottom bool) (api.Grey, bool)
}

// New is a marker over these (P16.1).
func New(a *arena.Arena, x *index.Index, l *grey.List) *Marker {
	if !made.Arena(a) || !made.Index(x) || !isList(l) {
		return nil
	}
	return &Marker{read: a.Read, index: x, list: l}
}

func (m *Marker) none() bool { return m == nil || m.read == nil }

// isList tells whether a call of its package made a list: another one takes nothing in.
func isList(l *grey.List) bool {
	l.Push(api.Key{})
	_, took := l.Pop(false)
	return took
}
