package key

import "gleaner/api"

// Find tells the one key of a set whose digits begin so (P3.8).
func Find(s *Set, prefix string) (api.Key, api.Errno) {
	if len(prefix) > width || !digitsAlone(prefix) {
		return api.Key{}, api.ErrHex
	}
	var one api.Key
	found := false
	for k := range s.All() {
		if !begins(k, prefix) {
			continue
		}
		if found {
			return api.Key{}, api.ErrTwo
		}
		one, found = k, true
	}
	if !found {
		return api.Key{}, api.ErrNone
	}
	return one, api.OK
}

// Short tells as few of a key's first digits as Find needs in a set (P3.9).
//
// Find is not asked for each length: a key is found as soon as it is told by
// one digit more than it shares with any other key.
func Short(s *Set, k api.Key) (string, api.Errno) {
	if !s.Has(k) {
		return "", api.ErrNone
	}
	n := api.MinShort
	for other := range s.All() {
		if other != k {
			n = max(n, shared(k, other)+1)
		}
	}
	return Hex(k)[:n], api.OK
}

// begins tells whether a key's digits begin with these, of which there are no more than it has.
func begins(k api.Key, prefix string) bool {
	for i := range len(prefix) {
		if digit(k, i) != prefix[i] {
			return false
		}
	}
	return true
}

// shared is how many first digits two keys that are unlike have in common.
func shared(a, b api.Key) int {
	n := 0
	for digit(a, n) == digit(b, n) {
		n++
	}
	return n
}
