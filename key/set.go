package key

import (
	"iter"
	"maps"
	"slices"

	"gleaner/api"
)

// Set is a set of keys. A nil one has none and takes none in, and so does one that NewSet did not make.
type Set struct {
	keys map[api.Key]struct{} // nil, if NewSet did not make the set
}

// NewSet makes one of some keys (P3.4).
func NewSet(keys ...api.Key) *Set {
	s := &Set{keys: map[api.Key]struct{}{}}
	for _, k := range keys {
		s.Add(k)
	}
	return s
}

// Add puts a key in; false: it was there, or the set takes none in (P3.4).
func (s *Set) Add(k api.Key) bool {
	if s == nil || s.keys == nil || s.Has(k) {
		return false
	}
	s.keys[k] = struct{}{}
	return true
}

// Has tells whether a key is in it (P3.4).
func (s *Set) Has(k api.Key) bool {
	if s == nil {
		return false
	}
	_, there := s.keys[k]
	return there
}

// Del takes a key out; false: it was not there (P3.4).
func (s *Set) Del(k api.Key) bool {
	if !s.Has(k) {
		return false
	}
	delete(s.keys, k)
	return true
}

// Len tells how many keys there are (P3.4).
func (s *Set) Len() int {
	if s == nil {
		return 0
	}
	return len(s.keys)
}

// Next tells the least key above one (any: the least of all) (P3.5).
//
// It goes over the map as it lies: the least key is the same in whatever order
// they come, and to sort them for one of them would be for nothing.
func (s *Set) Next(after api.Key, any bool) (api.Key, bool) {
	if s == nil {
		return api.Key{}, false
	}
	var least api.Key
	found := false
	for k := range s.keys {
		if !any && Compare(k, after) <= 0 {
			continue
		}
		if !found || Compare(k, least) < 0 {
			least, found = k, true
		}
	}
	return least, found
}

// All tells all keys, rising (P3.6).
//
// They are laid down when All is called, so that what becomes of the set later
// is not seen by who goes over them.
func (s *Set) All() iter.Seq[api.Key] {
	rising := s.rising()
	return func(yield func(api.Key) bool) {
		for _, k := range rising {
			if !yield(k) {
				return
			}
		}
	}
}

// rising is the keys in their order.
func (s *Set) rising() []api.Key {
	if s == nil {
		return nil
	}
	return slices.SortedFunc(maps.Keys(s.keys), Compare)
}

// Union is a new set of the keys that are in a or in b (P3.7).
func Union(a, b *Set) *Set {
	u := NewSet()
	for k := range a.All() {
		u.Add(k)
	}
	for k := range b.All() {
		u.Add(k)
	}
	return u
}

// Both is a new set of the keys that are in a and in b (P3.7).
func Both(a, b *Set) *Set {
	u := NewSet()
	for k := range a.All() {
		if b.Has(k) {
			u.Add(k)
		}
	}
	return u
}

// Minus is a new set of the keys that are in a and not in b (P3.7).
func Minus(a, b *Set) *Set {
	u := NewSet()
	for k := range a.All() {
		if !b.Has(k) {
			u.Add(k)
		}
	}
	return u
}
