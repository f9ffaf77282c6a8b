package key_test

import (
	"bytes"
	"iter"
	"slices"
	"testing"

	"gleaner/api"
	"gleaner/key"
)

// order is the keys rising, each once, reckoned without the package.
func order(keys []api.Key) []api.Key {
	rising := slices.Clone(keys)
	slices.SortFunc(rising, func(a, b api.Key) int { return bytes.Compare(a[:], b[:]) })
	return slices.Compact(rising)
}

// wantTold: the iterator tells just these keys in this order, each time it is gone over.
func wantTold(t *testing.T, what string, all iter.Seq[api.Key], want []api.Key) {
	t.Helper()
	for range 2 {
		if got := slices.Collect(all); !slices.Equal(got, want) {
			t.Errorf("%s: %x, want %x", what, got, want)
		}
	}
}

// wantKeys: the set has just these keys, whichever call is asked.
func wantKeys(t *testing.T, what string, s *key.Set, keys ...api.Key) {
	t.Helper()
	want := order(keys)
	wantTold(t, what+": All", s.All(), want)
	if s.Len() != len(want) {
		t.Errorf("%s: Len %d, want %d", what, s.Len(), len(want))
	}
	for _, k := range want {
		if !s.Has(k) {
			t.Errorf("%s: Has not %x", what, k)
		}
	}
}

// nothing are the sets that have no key and take none in.
func nothing() map[string]*key.Set {
	return map[string]*key.Set{"a nil set": nil, "a set that NewSet did not make": new(key.Set)}
}

// P3.4: the example, and sets of none, of one, of many and of one key many times.
func TestNewSet(t *testing.T) {
	a, b, c := example()
	wantKeys(t, "P3.4: NewSet of none", key.NewSet())
	wantKeys(t, "P3.4: NewSet of the zero key", key.NewSet(api.Key{}), api.Key{})
	wantKeys(t, "P3.4: NewSet of the example", key.NewSet(b, a, b), a, b)
	wantKeys(t, "P3.4: NewSet of one key thrice", key.NewSet(c, c, c), c)
	if s := key.NewSet(a, b); s.Has(c) || s.Has(api.Key{}) || s.Len() != 2 {
		t.Error("P3.4: Has of keys that are not there")
	}
	keys := wide(300)
	wantKeys(t, "P3.4: NewSet of many, each twice", key.NewSet(append(keys, keys...)...), keys...)
}

// P3.4: the keys handed in stay, and are not kept.
func TestNewSetLeavesItsKeys(t *testing.T) {
	keys := wide(40)
	slices.Reverse(keys)
	keys = append(keys, keys[3])
	was := slices.Clone(keys)
	s := key.NewSet(keys[:30]...)
	s.Add(keys[35])
	s.Del(keys[1])
	if !slices.Equal(keys, was) {
		t.Error("P3.4: NewSet, Add or Del changed the list of keys or the room behind it")
	}
	clear(keys)
	want := append(slices.Clone(was[:30]), was[35])
	wantKeys(t, "P3.4: a set whose list was written over", s, slices.Delete(want, 1, 2)...)
}

// P3.4: each call of a key that is there and of one that is not.
func TestAddHasDelInTurns(t *testing.T) {
	a, b, c := example()
	s := key.NewSet()
	if s.Has(a) || s.Del(a) || s.Len() != 0 {
		t.Error("P3.4: an empty set has a key")
	}
	if !s.Add(a) || !s.Has(a) || s.Len() != 1 {
		t.Error("P3.4: the first Add")
	}
	if s.Add(a) || !s.Has(a) || s.Len() != 1 {
		t.Error("P3.4: Add of a key that is there")
	}
	if !s.Add(c) || s.Has(b) || s.Del(b) || s.Len() != 2 {
		t.Error("P3.4: Has and Del of a key that is not there")
	}
	if !s.Del(a) || s.Has(a) || s.Len() != 1 {
		t.Error("P3.4: Del of a key that is there")
	}
	if s.Del(a) || s.Len() != 1 || !s.Has(c) {
		t.Error("P3.4: a second Del")
	}
	if !s.Add(a) || !s.Has(a) || s.Len() != 2 {
		t.Error("P3.4: Add behind Del")
	}
	wantKeys(t, "P3.4: the set behind all this", s, a, c)
}

// P3.4: many calls, held against a plain map.
func TestAddHasDelByDice(t *testing.T) {
	keys, x := wide(30), dice(11)
	s, plain := key.NewSet(), map[api.Key]bool{}
	for range 3000 {
		k := keys[x.throw(len(keys))]
		switch x.throw(3) {
		case 0:
			if s.Add(k) == plain[k] {
				t.Fatalf("P3.4: Add of %x, where its being there is %v", k, plain[k])
			}
			plain[k] = true
		case 1:
			if s.Del(k) != plain[k] {
				t.Fatalf("P3.4: Del of %x, where its being there is %v", k, plain[k])
			}
			delete(plain, k)
		}
		if s.Has(k) != plain[k] || s.Len() != len(plain) {
			t.Fatalf("P3.4: Has %x: %v, Len %d; want %v, %d", k, s.Has(k), s.Len(), plain[k], len(plain))
		}
	}
	for _, k := range keys {
		if s.Has(k) != plain[k] {
			t.Errorf("P3.4: at the end Has %x: %v", k, s.Has(k))
		}
	}
}

// P3.4, P3.5, P3.6: what is no set has no key, takes none in and tells none.
func TestSetsThatAreNone(t *testing.T) {
	a, b, _ := example()
	for what, s := range nothing() {
		for _, k := range []api.Key{{}, a, b} {
			if s.Add(k) || s.Has(k) || s.Del(k) || s.Len() != 0 {
				t.Errorf("P3.4: %s has %x, or takes it in", what, k)
			}
			for _, any := range []bool{false, true} {
				if got, ok := s.Next(k, any); ok || got != (api.Key{}) {
					t.Errorf("P3.5: Next of %s: %x, %v", what, got, ok)
				}
			}
		}
		wantTold(t, "P3.6: All of "+what, s.All(), nil)
	}
}

func wantNext(t *testing.T, s *key.Set, after api.Key, any bool, want api.Key, there bool) {
	t.Helper()
	if got, ok := s.Next(after, any); got != want || ok != there {
		t.Errorf("P3.5: Next of %x, any %v: %x, %v; want %x, %v", after, any, got, ok, want, there)
	}
}

// P3.5: from below, from a key of the set, from between two, from the last one.
func TestNext(t *testing.T) {
	one, two, three := of(0x10, 1), of(0x20, 1), of(0x30, 1)
	s := key.NewSet(two, three, one)
	wantNext(t, s, of(0x0f, 32), false, one, true)
	wantNext(t, s, api.Key{}, false, one, true)
	wantNext(t, s, one, false, two, true)
	wantNext(t, s, of(0x1f, 32), false, two, true)
	wantNext(t, s, two, false, three, true)
	wantNext(t, s, of(0x20, 2), false, three, true)
	wantNext(t, s, three, false, api.Key{}, false)
	wantNext(t, s, of(0xff, 32), false, api.Key{}, false)
	for _, after := range []api.Key{{}, one, two, three, of(0xff, 32)} {
		wantNext(t, s, after, true, one, true)
	}
	wantKeys(t, "P3.5: the set behind Next", s, one, two, three)
}

// P3.5: the zero key is a key as others are: it stands above none, and is told with any alone.
func TestNextOfTheZeroKey(t *testing.T) {
	s := key.NewSet(api.Key{}, of(1, 1))
	wantNext(t, s, api.Key{}, false, of(1, 1), true)
	wantNext(t, s, api.Key{}, true, api.Key{}, true)
	wantNext(t, key.NewSet(api.Key{}), api.Key{}, false, api.Key{}, false)
	wantNext(t, key.NewSet(api.Key{}), of(1, 1), true, api.Key{}, true)
}

// P3.5.
func TestNextOfAnEmptySet(t *testing.T) {
	emptied := key.NewSet(of(3, 3))
	emptied.Del(of(3, 3))
	for _, s := range []*key.Set{key.NewSet(), emptied} {
		wantNext(t, s, api.Key{}, false, api.Key{}, false)
		wantNext(t, s, api.Key{}, true, api.Key{}, false)
		wantNext(t, s, of(3, 3), true, api.Key{}, false)
	}
}

// P3.5: from one to the next all are come to, in their order; also from keys that are not there.
func TestNextGoesThroughAll(t *testing.T) {
	keys := wide(120)
	s := key.NewSet(keys...)
	var got []api.Key
	for k, ok := s.Next(api.Key{}, true); ok && len(got) <= len(keys); k, ok = s.Next(k, false) {
		got = append(got, k)
	}
	rising := order(keys)
	if !slices.Equal(got, rising) {
		t.Errorf("P3.5: Next by Next: %x", got)
	}
	x := dice(12)
	for range 200 {
		after := x.key()
		at, there := slices.BinarySearchFunc(rising, after, key.Compare)
		if there {
			at++
		}
		if at < len(rising) {
			wantNext(t, s, after, false, rising[at], true)
		} else {
			wantNext(t, s, after, false, api.Key{}, false)
		}
	}
}

// P3.6: rising, each once, each time; also of none and of one.
func TestAllRises(t *testing.T) {
	for _, n := range []int{2, 3, 17, 400} {
		keys := wide(n)
		wantTold(t, "P3.6: All", key.NewSet(keys...).All(), order(keys))
	}
	wantTold(t, "P3.6: All of an empty set", key.NewSet().All(), nil)
	wantTold(t, "P3.6: All of one key", key.NewSet(of(7, 7)).All(), []api.Key{of(7, 7)})
}

// P3.6: left behind each key, and gone over whole again.
func TestAllLeftEarly(t *testing.T) {
	rising := order(wide(20))
	all := key.NewSet(rising...).All()
	for n := 1; n <= len(rising); n++ {
		var got []api.Key
		for k := range all {
			got = append(got, k)
			if len(got) == n {
				break
			}
		}
		if !slices.Equal(got, rising[:n]) {
			t.Errorf("P3.6: All left behind %d keys: %x", n, got)
		}
		wantTold(t, "P3.6: All behind one that was left", all, rising)
	}
	calls := 0
	all(func(api.Key) bool { calls++; return false })
	if calls != 1 {
		t.Errorf("P3.6: who said no was called %d times", calls)
	}
}

// P3.6: two may go over one All, the one within the other.
func TestAllWithinAll(t *testing.T) {
	rising := order(wide(9))
	all := key.NewSet(rising...).All()
	n := 0
	for a := range all {
		at := 0
		for b := range all {
			if a != rising[n] || b != rising[at] {
				t.Errorf("P3.6: at %d within %d: %x, %x", at, n, a, b)
			}
			at++
		}
		n++
	}
	if n != len(rising) {
		t.Errorf("P3.6: the outer one told %d keys", n)
	}
}

// P3.6: keys added and deleted in the midst of it are not seen by it.
func TestAllWhileTheSetChanges(t *testing.T) {
	rising := order(wide(30))
	for _, at := range []int{0, 1, 15, 29} {
		s := key.NewSet(rising...)
		all := s.All()
		var got []api.Key
		added := rising[at]
		added[31] ^= 1
		for k := range all {
			got = append(got, k)
			if len(got) == at+1 {
				s.Add(added)
				s.Del(rising[0])
				s.Del(rising[29])
			}
		}
		if !slices.Equal(got, rising) {
			t.Errorf("P3.6: All, where keys came and went behind %d: %x", at+1, got)
		}
		wantTold(t, "P3.6: All of then", all, rising)
		wantKeys(t, "P3.6: the set as it stands now", s, append(slices.Clone(rising[1:29]), added)...)
	}
}

// P3.6: what counts is when All is called, not when it is gone over.
func TestAllOfThen(t *testing.T) {
	a, b, c := example()
	s := key.NewSet(a, b)
	then := s.All()
	s.Add(c)
	s.Del(a)
	later := s.All()
	s.Del(b)
	s.Del(c)
	wantTold(t, "P3.6: All of then", then, []api.Key{a, b})
	wantTold(t, "P3.6: All of later", later, []api.Key{b, c})
	wantTold(t, "P3.6: All of now", s.All(), nil)
	empty := key.NewSet()
	none := empty.All()
	empty.Add(a)
	wantTold(t, "P3.6: All of a set that was empty then", none, nil)
}

// pairs are sets with some keys in common, none, all, and with none in one of them.
func pairs() map[string][2][]api.Key {
	keys := wide(30)
	return map[string][2][]api.Key{
		"some in common":     {keys[:20], keys[10:]},
		"none in common":     {keys[:15], keys[15:]},
		"all in common":      {keys, keys},
		"one within another": {keys[5:9], keys},
		"the other within":   {keys, keys[5:9]},
		"the first empty":    {nil, keys[:5]},
		"the second empty":   {keys[:5], nil},
		"both empty":         {nil, nil},
	}
}

// picked is the keys of which the question is answered yes.
func picked(keys []api.Key, yes func(api.Key) bool) []api.Key {
	var some []api.Key
	for _, k := range keys {
		if yes(k) {
			some = append(some, k)
		}
	}
	return some
}

// P3.7.
func TestUnionBothMinus(t *testing.T) {
	for what, p := range pairs() {
		inB := func(k api.Key) bool { return slices.Contains(p[1], k) }
		notInB := func(k api.Key) bool { return !inB(k) }
		a, b := key.NewSet(p[0]...), key.NewSet(p[1]...)
		wantKeys(t, "P3.7: Union, "+what, key.Union(a, b), slices.Concat(p[0], p[1])...)
		wantKeys(t, "P3.7: Both, "+what, key.Both(a, b), picked(p[0], inB)...)
		wantKeys(t, "P3.7: Minus, "+what, key.Minus(a, b), picked(p[0], notInB)...)
		wantKeys(t, "P3.7: the first, "+what, a, p[0]...)
		wantKeys(t, "P3.7: the second, "+what, b, p[1]...)
	}
}

// P3.7: of a set and itself.
func TestUnionBothMinusOfOneSet(t *testing.T) {
	keys := wide(10)
	s := key.NewSet(keys...)
	wantKeys(t, "P3.7: Union of a set and itself", key.Union(s, s), keys...)
	wantKeys(t, "P3.7: Both of a set and itself", key.Both(s, s), keys...)
	wantKeys(t, "P3.7: Minus of a set and itself", key.Minus(s, s))
	wantKeys(t, "P3.7: the set itself", s, keys...)
}

// P3.7: what is no set counts as an empty one; the answer is a set, which takes keys in.
func TestUnionBothMinusOfNone(t *testing.T) {
	keys := wide(6)
	s := key.NewSet(keys...)
	for what, none := range nothing() {
		wantKeys(t, "P3.7: Union of it and a set, "+what, key.Union(none, s), keys...)
		wantKeys(t, "P3.7: Union of a set and it, "+what, key.Union(s, none), keys...)
		wantKeys(t, "P3.7: Both of it and a set, "+what, key.Both(none, s))
		wantKeys(t, "P3.7: Both of a set and it, "+what, key.Both(s, none))
		wantKeys(t, "P3.7: Minus of it and a set, "+what, key.Minus(none, s))
		wantKeys(t, "P3.7: Minus of a set and it, "+what, key.Minus(s, none), keys...)
		for i, made := range []*key.Set{
			key.Union(none, none), key.Both(none, none), key.Minus(none, none),
			key.Both(none, s), key.Both(s, none), key.Minus(none, s),
		} {
			if made == nil || made.Len() != 0 || !made.Add(keys[0]) || made.Len() != 1 {
				t.Errorf("P3.7: answer %d of %s is no set of its own", i, what)
			}
		}
		if none.Len() != 0 {
			t.Errorf("P3.7: %s has got keys", what)
		}
	}
}

// P3.7: what is done to the answer or to those that it was made of changes nothing of the others.
func TestUnionBothMinusAreNew(t *testing.T) {
	keys := wide(12)
	extra := of(0x55, 9)
	for what, op := range map[string]func(a, b *key.Set) *key.Set{"Union": key.Union, "Both": key.Both, "Minus": key.Minus} {
		for _, second := range [][]api.Key{keys[6:], nil, keys} {
			a, b := key.NewSet(keys[:8]...), key.NewSet(second...)
			made := op(a, b)
			had := slices.Collect(made.All())
			made.Add(extra)
			made.Del(keys[0])
			made.Del(keys[7])
			wantKeys(t, "P3.7: the first, its "+what+" changed", a, keys[:8]...)
			wantKeys(t, "P3.7: the second, its "+what+" changed", b, second...)
			made = op(a, b)
			for _, s := range []*key.Set{a, b} {
				s.Add(extra)
				s.Del(keys[0])
				s.Del(keys[7])
			}
			wantKeys(t, "P3.7: "+what+", those that it was made of changed", made, had...)
		}
	}
}

// merge is two rising lists as one, what stands in both once.
func merge(a, b []api.Key) []api.Key {
	var all []api.Key
	for len(a) > 0 && len(b) > 0 {
		switch c := bytes.Compare(a[0][:], b[0][:]); {
		case c < 0:
			all, a = append(all, a[0]), a[1:]
		case c > 0:
			all, b = append(all, b[0]), b[1:]
		default:
			all, a, b = append(all, a[0]), a[1:], b[1:]
		}
	}
	return append(append(all, a...), b...)
}

// P3.10: All of Union is the merge; the counts of Union and of Both are those of the two.
func TestWhatFollowsForTwoSets(t *testing.T) {
	all := pairs()
	keys, x := wide(40), dice(13)
	for i := range 50 {
		some := func(api.Key) bool { return x.throw(3) > 0 }
		all[string(rune('A'+i))] = [2][]api.Key{picked(keys, some), picked(keys, some)}
	}
	for what, p := range all {
		a, b := key.NewSet(p[0]...), key.NewSet(p[1]...)
		u := key.Union(a, b)
		wantTold(t, "P3.10: Union, "+what, u.All(), merge(slices.Collect(a.All()), slices.Collect(b.All())))
		if u.Len()+key.Both(a, b).Len() != a.Len()+b.Len() {
			t.Errorf("P3.10: %s: Union has %d, Both %d, the two %d and %d", what, u.Len(), key.Both(a, b).Len(), a.Len(), b.Len())
		}
	}
}
