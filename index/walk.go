package index

import (
	"bytes"
	"iter"
	"slices"

	"gleaner/api"
)

// compare holds keys against one another as layer 3 does.
func compare(a, b api.Key) int { return bytes.Compare(a[:], b[:]) }

// Next is the entry with the least key above another one, or, with any, of all (P12.4).
func (x *Index) Next(after api.Key, any bool) (api.Keyed, bool) {
	var least api.Keyed
	if x == nil {
		return least, false
	}
	first := int(after[0])
	if any {
		first = 0
	}
	found := false
	for i := range api.Shards {
		// The tables are gone through as first bytes rise from the least that may be: what is left begins with first + i at least.
		if found && int(least.Key[0]) < first+i {
			break
		}
		for k, e := range x.shards[(first+i)%api.Shards].All() {
			if (any || compare(k, after) > 0) && (!found || compare(k, least.Key) < 0) {
				least, found = api.Keyed{Key: k, Entry: e}, true
			}
		}
	}
	return least, found
}

// entries are those of all tables, by key.
func (x *Index) entries() []api.Keyed {
	if x == nil {
		return nil
	}
	list := make([]api.Keyed, 0, x.Len())
	for _, in := range x.shards {
		for k, e := range in.All() {
			list = append(list, api.Keyed{Key: k, Entry: e})
		}
	}
	slices.SortFunc(list, func(a, b api.Keyed) int { return compare(a.Key, b.Key) })
	return list
}

// All goes through the entries that there are now, by key (P12.5).
func (x *Index) All() iter.Seq2[api.Key, api.Entry] {
	list := x.entries() // gathered ahead of the walk: what is done to the index meanwhile or later is not to be seen in it
	return func(yield func(api.Key, api.Entry) bool) {
		for _, at := range list {
			if !yield(at.Key, at.Entry) {
				return
			}
		}
	}
}
