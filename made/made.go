// Package made tells of a part that a layer is handed whether a call of the part's own package made it: a nil one and a zero one are alike (P0.1). That is seen by what the part answers alone.
package made

import (
	"gleaner/api"
	"gleaner/arena"
	"gleaner/index"
	"gleaner/pins"
	"gleaner/roots"
)

// Arena tells it of an arena: one that was not made has no size.
func Arena(a *arena.Arena) bool { return a.Config() != api.Config{} }

// Index tells it of an index: one that was not made has no entry and takes none in. The index is behind it as it was.
func Index(x *index.Index) bool {
	if x.Len() > 0 {
		return true
	}
	took := x.Put(api.Key{}, api.Entry{})
	x.Del(api.Key{})
	return took
}

// Roots tells it of a table of roots: each that was made has a version 0.
func Roots(r *roots.Roots) bool {
	_, no := r.At(0)
	return no == api.OK
}

// Pins tells it of sessions: those that were made refuse a number that is no session's for that number's sake.
func Pins(p *pins.Pins) bool { return p.Open(-1) == api.ErrSession }
