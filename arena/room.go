package arena

import (
	"slices"

	"gleaner/api"
)

// Reserve makes room at the open end (P10.3).
func (a *Arena) Reserve(size int) (api.Place, api.Errno) {
	return a.reserve(api.SegOpen, size, func() (int, bool) { return a.first(api.SegFree) })
}

// ReserveDest makes room at the mover's end (P10.4).
func (a *Arena) ReserveDest(size int) (api.Place, api.Errno) {
	return a.reserve(api.SegDest, size, func() (int, bool) {
		if spare, ok := a.first(api.SegSpare); ok {
			return spare, true
		}
		return a.first(api.SegFree)
	})
}

// reserve makes room at the end whose segment is in that state; next finds the segment that follows when it is full.
func (a *Arena) reserve(end api.SegState, size int, next func() (int, bool)) (api.Place, api.Errno) {
	if a.none() {
		return api.Place{}, api.ErrNil
	}
	if size < 1 || size > a.config.Size {
		return api.Place{}, api.ErrArg
	}
	seg, begun := a.first(end)
	if !begun || size > a.config.Size-len(a.segs[seg].bytes) {
		follower, ok := next()
		if !ok {
			return api.Place{}, api.ErrFull
		}
		if begun {
			a.segs[seg].state = api.SegSealed
		}
		seg = follower
		a.segs[seg].state = end
	}
	return a.lay(seg, size), api.OK
}

// lay makes a pending room behind the used bytes of a segment.
func (a *Arena) lay(seg, size int) api.Place {
	used := a.segs[seg].bytes
	at := api.Place{Seg: seg, Off: len(used)}
	a.segs[seg].bytes = append(used, make([]byte, size)...)
	a.segs[seg].pending = append(a.segs[seg].pending, at.Off)
	a.rooms[at] = room{size: size}
	return at
}

// Write writes bytes into reserved room (P10.5).
func (a *Arena) Write(at api.Place, data []byte) api.Errno {
	if a.none() {
		return api.ErrNil
	}
	if len(data) > a.left(at) {
		return api.ErrRoom
	}
	into, _ := a.cut(at, len(data))
	copy(into, data)
	return api.OK
}

// left is how many bytes lie from a place on up to the end of the pending room that it lies in; below 0: it lies in none, nor at an end.
func (a *Arena) left(at api.Place) int {
	if !a.has(at.Seg) {
		return -1
	}
	starts := a.segs[at.Seg].pending
	i, begins := slices.BinarySearch(starts, at.Off)
	if !begins {
		i--
	}
	if i < 0 {
		return -1
	}
	start := api.Place{Seg: at.Seg, Off: starts[i]}
	return a.rooms[start].size - (at.Off - start.Off)
}

// known tells whether just this room is at a place.
func (a *Arena) known(at api.Place, r room) bool {
	is, ok := a.rooms[at]
	return ok && is == r
}

// Settle says what has become of reserved room (P10.6).
func (a *Arena) Settle(at api.Place, size int, live bool) api.Errno {
	if a.none() {
		return api.ErrNil
	}
	if !a.known(at, room{size: size}) {
		return api.ErrRoom
	}
	starts := a.segs[at.Seg].pending
	i, _ := slices.BinarySearch(starts, at.Off)
	a.segs[at.Seg].pending = slices.Delete(starts, i, i+1)
	delete(a.rooms, at)
	if live {
		a.rooms[at] = room{size: size, live: true}
		a.segs[at.Seg].live += size
	}
	return api.OK
}

// Dead says that a record is live no more (P10.7).
func (a *Arena) Dead(at api.Place, size int) api.Errno {
	if a.none() {
		return api.ErrNil
	}
	if !a.known(at, room{size: size, live: true}) {
		return api.ErrRoom
	}
	delete(a.rooms, at)
	a.segs[at.Seg].live -= size
	return api.OK
}

// Read tells bytes (P10.9).
func (a *Arena) Read(at api.Place, n int) ([]byte, api.Errno) {
	if a.none() {
		return nil, api.ErrNil
	}
	b, ok := a.cut(at, n)
	if !ok {
		return nil, api.ErrRoom
	}
	return fresh(b), api.OK
}
