package index_test

import (
	"iter"
	"maps"
	"slices"

	"gleaner/api"
	"gleaner/key"
)

// plain is the chapter's words over a map, without any shards.
type plain map[api.Key]api.Entry

func (p plain) Get(k api.Key) (api.Entry, bool) {
	e, ok := p[k]
	return e, ok
}

func (p plain) Put(k api.Key, e api.Entry) bool {
	if _, ok := p[k]; ok {
		return false
	}
	p[k] = e
	return true
}

func (p plain) Mark(k api.Key, epoch uint32) bool {
	e, ok := p[k]
	if !ok || e.Mark == epoch {
		return false
	}
	p[k] = api.Entry{Place: e.Place, Size: e.Size, Mark: epoch}
	return true
}

func (p plain) Move(k api.Key, from, to api.Place) bool {
	e, ok := p[k]
	if !ok || e.Place.Seg != from.Seg || e.Place.Off != from.Off {
		return false
	}
	p[k] = api.Entry{Place: to, Size: e.Size, Mark: e.Mark}
	return true
}

func (p plain) Del(k api.Key) (api.Entry, bool) {
	e, ok := p[k]
	delete(p, k)
	return e, ok
}

// rising are the keys, as layer 3 orders them.
func (p plain) rising() []api.Key { return slices.SortedFunc(maps.Keys(p), key.Compare) }

func (p plain) Next(after api.Key, any bool) (api.Keyed, bool) {
	for _, k := range p.rising() {
		if any || key.Compare(k, after) > 0 {
			return api.Keyed{Key: k, Entry: p[k]}, true
		}
	}
	return api.Keyed{}, false
}

func (p plain) All() iter.Seq2[api.Key, api.Entry] {
	keys, then := p.rising(), maps.Clone(p)
	return func(yield func(api.Key, api.Entry) bool) {
		for _, k := range keys {
			if !yield(k, then[k]) {
				return
			}
		}
	}
}

func (p plain) Len() int { return len(p) }

func (p plain) Sizes() [api.Shards]int {
	var n [api.Shards]int
	for k := range p {
		n[k[0]&15]++
	}
	return n
}
