package sweep_test

import (
	"slices"
	"strings"

	"gleaner/api"
)

// plain is the chapter's words over plain lists: entries lie in no order, live rooms by place.
type plain struct {
	in    []api.Keyed
	alive []api.Room
	epoch uint32
	last  []api.Key // those that were looked at
	out   int
}

// newPlain has the rooms of a new store, and no entry.
func newPlain() *plain {
	p := &plain{epoch: 5}
	for n := range waiting {
		p.alive = append(p.alive, room(n))
	}
	return p
}

func (p *plain) begin(epoch uint32) { p.epoch, p.last, p.out = epoch, nil, 0 }

// at is where a key's entry is; below 0: there is none.
func (p *plain) at(k api.Key) int {
	return slices.IndexFunc(p.in, func(at api.Keyed) bool { return at.Key == k })
}

func (p *plain) put(k api.Key, e api.Entry) bool {
	if p.at(k) >= 0 {
		return false
	}
	p.in = append(p.in, api.Keyed{Key: k, Entry: e})
	return true
}

func (p *plain) del(k api.Key) bool {
	i := p.at(k)
	if i < 0 {
		return false
	}
	p.in = slices.Delete(p.in, i, i+1)
	return true
}

func (p *plain) mark(k api.Key, epoch uint32) bool {
	i := p.at(k)
	if i < 0 || p.in[i].Entry.Mark == epoch {
		return false
	}
	p.in[i].Entry.Mark = epoch
	return true
}

func (p *plain) move(k api.Key, to api.Place) bool {
	i := p.at(k)
	if i < 0 {
		return false
	}
	p.in[i].Entry.Place = to
	return true
}

func (p *plain) dead(r api.Room) api.Errno {
	i := slices.Index(p.alive, r)
	if i < 0 {
		return api.ErrRoom
	}
	p.alive = slices.Delete(p.alive, i, i+1)
	return api.OK
}

func (p *plain) live() []api.Room { return p.alive }

func order(a, b api.Key) int { return strings.Compare(string(a[:]), string(b[:])) }

func (p *plain) entries() []api.Keyed {
	out := slices.Clone(p.in)
	slices.SortFunc(out, func(a, b api.Keyed) int { return order(a.Key, b.Key) })
	return out
}

// next is the entry that the next act looks at, if there is one.
func (p *plain) next() (api.Keyed, bool) {
	for _, at := range p.entries() {
		if len(p.last) == 0 || order(at.Key, p.last[len(p.last)-1]) > 0 {
			return at, true
		}
	}
	return api.Keyed{}, false
}

func (p *plain) Act() bool {
	at, ok := p.next()
	if !ok {
		return true
	}
	p.last = append(p.last, at.Key)
	if at.Entry.Mark != p.epoch {
		p.del(at.Key)
		p.dead(api.Room{Place: at.Entry.Place, Size: at.Entry.Size})
		p.out++
	}
	return false
}

func (p *plain) Removed() int { return p.out }
