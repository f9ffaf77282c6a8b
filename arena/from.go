package arena

import (
	"slices"

	"gleaner/api"
)

// From is an arena as it stood (P10.2).
func From(c api.Config, segs []api.Segment, bytes [][]byte, live []api.Room) (*Arena, api.Errno) {
	a, no := New(c)
	if no != api.OK {
		return nil, no
	}
	if !mayBe(c, segs, bytes) {
		return nil, api.ErrSeg
	}
	for i, s := range segs {
		a.segs[i] = segment{state: s.State, bytes: fresh(bytes[i])}
	}
	if !a.takeLive(live) {
		return nil, api.ErrRoom
	}
	for i, s := range segs {
		if a.segs[i].live != s.Live {
			return nil, api.ErrSeg
		}
	}
	return a, api.OK
}

// mayBe tells whether an arena may stand so, whatever its rooms are.
func mayBe(c api.Config, segs []api.Segment, bytes [][]byte) bool {
	if len(segs) != c.Segs || len(bytes) != c.Segs {
		return false
	}
	open, spare := 0, 0
	for i, s := range segs {
		if s.Used != len(bytes[i]) || s.Used > c.Size || s.Pending != 0 || s.Held != 0 {
			return false
		}
		if empty(s.State) && s.Used != 0 {
			return false
		}
		switch s.State {
		case api.SegFree, api.SegSealed:
		case api.SegSpare:
			spare++
		case api.SegOpen:
			open++
		default:
			return false
		}
	}
	return open <= 1 && spare <= 1
}

// empty tells whether segments in a state have nothing in them.
func empty(state api.SegState) bool { return state == api.SegFree || state == api.SegSpare }

// takeLive lays live rooms into an arena that has none; false: one of them may not be.
func (a *Arena) takeLive(live []api.Room) bool {
	rooms := slices.Clone(live)
	// In their order each is held against the last one alone: of those that do not meet none reaches beyond that.
	slices.SortFunc(rooms, order)
	last := api.Room{Place: api.Place{Seg: -1}}
	for _, r := range rooms {
		if _, ok := a.cut(r.Place, r.Size); !ok || r.Size < 1 || meet(last, r) {
			return false
		}
		a.rooms[r.Place] = room{size: r.Size, live: true}
		a.segs[r.Place.Seg].live += r.Size
		last = r
	}
	return true
}

// meet tells whether a room and one that does not begin ahead of it have a byte in common.
func meet(x, y api.Room) bool {
	return x.Place.Seg == y.Place.Seg && x.Place.Off+x.Size > y.Place.Off
}
