package arena

import (
	"cmp"
	"slices"

	"gleaner/api"
)

// Hold says that somebody reads a segment (P10.8).
func (a *Arena) Hold(seg int) api.Errno {
	if a.none() {
		return api.ErrNil
	}
	if !a.has(seg) || empty(a.segs[seg].state) {
		return api.ErrSeg
	}
	a.segs[seg].held++
	return api.OK
}

// Let says that one of them is through (P10.8).
func (a *Arena) Let(seg int) api.Errno {
	if a.none() {
		return api.ErrNil
	}
	if !a.has(seg) || a.segs[seg].held == 0 {
		return api.ErrSeg
	}
	a.segs[seg].held--
	return api.OK
}

// Seal seals the open segment (P10.10).
func (a *Arena) Seal() {
	if a.none() {
		return
	}
	if open, ok := a.first(api.SegOpen); ok {
		a.segs[open].state = api.SegSealed
	}
}

// Victims are the segments that are to be moved out of (P10.11).
func (a *Arena) Victims() []int {
	if a.none() {
		return nil
	}
	var out []int
	for i, s := range a.segs {
		if s.state == api.SegSealed && len(s.pending) == 0 && 2*s.live <= a.config.Size {
			out = append(out, i)
		}
	}
	slices.SortFunc(out, func(i, j int) int {
		return cmp.Or(cmp.Compare(a.segs[i].live, a.segs[j].live), cmp.Compare(i, j))
	})
	return out
}

// Free empties a segment (P10.12).
func (a *Arena) Free(seg int) api.Errno {
	if a.none() {
		return api.ErrNil
	}
	if !a.has(seg) || a.segs[seg].state != api.SegSealed {
		return api.ErrSeg
	}
	s := a.segs[seg]
	if s.held > 0 || len(s.pending) > 0 {
		return api.ErrHeld
	}
	if s.live > 0 {
		return api.ErrLive
	}
	a.segs[seg] = segment{state: a.unless(api.SegSpare, api.SegFree)}
	return api.OK
}

// Finish hands the mover's segment on (P10.13).
func (a *Arena) Finish() {
	if a.none() {
		return
	}
	if dest, ok := a.first(api.SegDest); ok {
		a.segs[dest].state = a.unless(api.SegOpen, api.SegSealed)
	}
	if free, ok := a.first(api.SegFree); ok {
		a.segs[free].state = a.unless(api.SegSpare, api.SegFree)
	}
}

// unless is a state that one segment at most may be in, or, if one is in it, another state.
func (a *Arena) unless(state, other api.SegState) api.SegState {
	if _, ok := a.first(state); ok {
		return other
	}
	return state
}
