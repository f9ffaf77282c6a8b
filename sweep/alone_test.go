package sweep_test

import (
	"slices"
	"strconv"
	"testing"

	"gleaner/api"
)

// lives are the live bytes of each segment.
func (s *store) lives() []int {
	var out []int
	for _, seg := range s.a.Segments() {
		out = append(out, seg.Live)
	}
	return out
}

// drawnIndex fills an index with entries of so many epochs; no two have a room in common, some have none, or a dead one.
func drawnIndex(s *store, some *dice, count, epochs int) {
	free := make([]int, waiting)
	for n := range free {
		free[n] = n
	}
	for n := range count {
		e := entry("0", []string{"none", "below", "far"}[n%3])
		if len(free) > 0 && some.throw(5) > 0 {
			i := some.throw(len(free))
			r := room(free[i])
			free = slices.Delete(free, i, i+1)
			e = api.Entry{Place: r.Place, Size: r.Size}
			if some.throw(6) == 0 {
				s.dead(r)
			}
		}
		e.Mark = uint32(4 + some.throw(epochs))
		k := numbered(n)
		if n%4 == 0 {
			k = api.Key{31: byte(some.throw(256)), 30: byte(some.throw(3))}
		}
		s.x.Put(k, e)
	}
}

// P17.4: drawn indexes, and nobody beside: how many acts answer false, what is left, Removed, and the live bytes.
func TestAlone(t *testing.T) {
	kept, lost := 0, 0
	for game := range 120 {
		some := dice(1700 + game)
		s := made(t)
		drawnIndex(s, &some, []int{0, 1, 2, 17, 90, 400}[game%6], 2+game/6%2)
		s.begin(5)
		was, live, alive := s.entries(), s.lives(), s.live()
		acts := 0
		for !s.Act() {
			if acts++; acts > len(was) {
				t.Fatalf("P17.4: game %d: more acts than entries", game)
			}
		}
		label := "P17.4: game " + strconv.Itoa(game)
		is(t, label+": acts", acts, len(was))
		var want []api.Keyed
		dead := map[api.Room]bool{}
		for _, at := range was {
			if at.Entry.Mark == 5 {
				want = append(want, at)
				continue
			}
			dead[api.Room{Place: at.Entry.Place, Size: at.Entry.Size}] = true
		}
		is(t, label+": what is left", listed(s.entries()), listed(want))
		is(t, label+": Removed", s.Removed(), len(was)-len(want))
		alive = slices.DeleteFunc(alive, func(r api.Room) bool {
			if dead[r] {
				live[r.Place.Seg] -= r.Size
			}
			return dead[r]
		})
		is(t, label+": live rooms", slices.Equal(s.live(), alive), true)
		is(t, label+": live bytes", slices.Equal(s.lives(), live), true)
		kept, lost = kept+len(want), lost+waiting-len(alive)
	}
	if kept < 2000 || lost < 2000 {
		t.Errorf("P17.4: drawn: %d entries were kept, %d rooms lost", kept, lost)
	}
}

// P17.4: many entries, in keys of all first bytes and of one.
func TestAloneMany(t *testing.T) {
	for _, like := range []bool{false, true} {
		s := made(t)
		for n := range 2500 {
			k := numbered(n)
			if like {
				k[0] = 0x3a
			}
			s.x.Put(k, api.Entry{Size: n, Mark: uint32(n % 3)})
		}
		s.begin(1)
		for n := range 2500 {
			if s.Act() {
				t.Fatalf("P17.4: act %d is the last", n)
			}
		}
		is(t, "P17.4: the last act", s.Act(), true)
		is(t, "P17.4: Removed", s.Removed(), 1667)
		is(t, "P17.4: what is left", s.x.Len(), 833)
		for k, e := range s.x.All() {
			is(t, "P17.4: the Mark of "+word(k), e.Mark, 1)
		}
	}
}
