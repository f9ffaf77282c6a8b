package object_test

import (
	"bytes"
	"slices"
	"testing"

	"gleaner/api"
	"gleaner/object"
)

// whole is an object of a kind with something in every field, right or not.
func whole(kind api.Kind) api.Object {
	return api.Object{
		Kind:    kind,
		Data:    []byte("data"),
		Parts:   []api.Part{{Key: keyOf(1), Size: 9}, {Key: keyOf(2)}, {Key: keyOf(1), Size: 8}},
		Items:   []api.Item{{Name: "b", Mode: 9, Size: 7, Key: keyOf(3)}, {Name: "/", Key: keyOf(4)}, {Key: keyOf(3)}},
		Tree:    keyOf(5),
		Parents: []api.Key{keyOf(6), keyOf(5), keyOf(6), {}},
		Time:    -7,
		Note:    "\xff",
	}
}

// P4.5: by its kind, in their order, each as often as it stands there, of objects that may not be.
func TestKids(t *testing.T) {
	for k := range 256 {
		var want []api.Key
		switch api.Kind(k) {
		case api.List:
			want = []api.Key{keyOf(1), keyOf(2), keyOf(1)}
		case api.Tree:
			want = []api.Key{keyOf(3), keyOf(4), keyOf(3)}
		case api.Snap:
			want = []api.Key{keyOf(5), keyOf(6), keyOf(5), keyOf(6), {}}
		}
		if got := object.Kids(whole(api.Kind(k))); !slices.Equal(got, want) {
			t.Errorf("P4.5: kind %d: %x, want %x", k, got, want)
		}
	}
}

// P4.5: of right ones, of empty ones, and of more than may be.
func TestKidsOfMore(t *testing.T) {
	for what, c := range map[string]struct {
		o    api.Object
		want []api.Key
	}{
		"a blob":             {blob([]byte("x")), nil},
		"the empty list":     {list(), nil},
		"the empty tree":     {tree(), nil},
		"the empty snapshot": {api.Object{Kind: api.Snap}, []api.Key{{}}},
		"a list":             {list(api.Part{Key: keyOf(1)}, api.Part{Key: keyOf(1)}), []api.Key{keyOf(1), keyOf(1)}},
		"a tree":             {tree(api.Item{Name: "a", Mode: 1, Key: keyOf(2)}, api.Item{Name: "b", Mode: 3, Key: keyOf(1)}), []api.Key{keyOf(2), keyOf(1)}},
		"a snapshot":         {api.Object{Kind: api.Snap, Tree: keyOf(1), Parents: []api.Key{keyOf(1)}}, []api.Key{keyOf(1), keyOf(1)}},
		"too many parts":     {list(slices.Repeat([]api.Part{{Key: keyOf(1), Size: 1 << 63}}, 500)...), slices.Repeat([]api.Key{keyOf(1)}, 500)},
		"too many items":     {tree(slices.Repeat([]api.Item{{Key: keyOf(1)}}, 500)...), slices.Repeat([]api.Key{keyOf(1)}, 500)},
		"too many parents":   {snap("", slices.Repeat([]api.Key{{}}, 499)...), slices.Repeat([]api.Key{{}}, 500)},
	} {
		if got := object.Kids(c.o); !slices.Equal(got, c.want) {
			t.Errorf("P4.5: %s: %d kids, want %d", what, len(got), len(c.want))
		}
	}
}

// P0.1: Kids answers new memory.
func TestKidsAreNew(t *testing.T) {
	for k := api.Blob; k <= api.Snap; k++ {
		o := whole(k)
		first, second := object.Kids(o), object.Kids(o)
		scribble(first, api.Key{99})
		if !object.Same(o, whole(k)) {
			t.Errorf("P0.1: kind %d: kids share memory with the object", k)
		}
		if want := object.Kids(whole(k)); !slices.Equal(second, want) {
			t.Errorf("P0.1: kind %d: two answers share memory", k)
		}
		scribble(o.Parents, api.Key{88})
		if want := object.Kids(whole(k)); !slices.Equal(second, want) {
			t.Errorf("P0.1: kind %d: kids share memory with the parents", k)
		}
	}
}

// P4.6: objects that differ in one field alone.
func TestSame(t *testing.T) {
	turns := map[string]func(o *api.Object){
		"Kind":               func(o *api.Object) { o.Kind++ },
		"Data":               func(o *api.Object) { o.Data[3] ^= 1 },
		"Data, shorter":      func(o *api.Object) { o.Data = o.Data[:3] },
		"Data, longer":       func(o *api.Object) { o.Data = append(o.Data, 0) },
		"Data, none":         func(o *api.Object) { o.Data = nil },
		"Parts, a key":       func(o *api.Object) { o.Parts[1].Key[31] ^= 1 },
		"Parts, a size":      func(o *api.Object) { o.Parts[2].Size ^= 1 << 63 },
		"Parts, shorter":     func(o *api.Object) { o.Parts = o.Parts[:2] },
		"Parts, longer":      func(o *api.Object) { o.Parts = append(o.Parts, api.Part{}) },
		"Parts, none":        func(o *api.Object) { o.Parts = []api.Part{} },
		"Parts, turned":      func(o *api.Object) { slices.Reverse(o.Parts) },
		"Items, a name":      func(o *api.Object) { o.Items[0].Name = "B" },
		"Items, a mode":      func(o *api.Object) { o.Items[0].Mode++ },
		"Items, a size":      func(o *api.Object) { o.Items[1].Size++ },
		"Items, a key":       func(o *api.Object) { o.Items[2].Key[0] ^= 1 },
		"Items, shorter":     func(o *api.Object) { o.Items = o.Items[1:] },
		"Items, longer":      func(o *api.Object) { o.Items = append(o.Items, api.Item{}) },
		"Items, none":        func(o *api.Object) { o.Items = nil },
		"Tree":               func(o *api.Object) { o.Tree[31] ^= 1 },
		"Parents, a key":     func(o *api.Object) { o.Parents[3][31] = 1 },
		"Parents, shorter":   func(o *api.Object) { o.Parents = o.Parents[:3] },
		"Parents, longer":    func(o *api.Object) { o.Parents = append(o.Parents, api.Key{}) },
		"Parents, none":      func(o *api.Object) { o.Parents = nil },
		"Parents, reordered": func(o *api.Object) { o.Parents[0], o.Parents[1] = o.Parents[1], o.Parents[0] },
		"Time":               func(o *api.Object) { o.Time = 7 },
		"Note":               func(o *api.Object) { o.Note = "\xfe" },
		"Note, longer":       func(o *api.Object) { o.Note += "\x00" },
		"Note, none":         func(o *api.Object) { o.Note = "" },
	}
	for k := range 256 {
		a := whole(api.Kind(k))
		if !object.Same(a, whole(api.Kind(k))) || !object.Same(a, a) {
			t.Errorf("P4.6: kind %d: not the same as itself", k)
		}
		for what, turn := range turns {
			b := whole(api.Kind(k))
			turn(&b)
			if object.Same(a, b) || object.Same(b, a) {
				t.Errorf("P4.6: kind %d: the same, but for %s", k, what)
			}
		}
	}
}

// P4.6: nil and empty lists are alike, one with something in it is not.
func TestSameOfEmptyLists(t *testing.T) {
	empty := api.Object{Data: []byte{}, Parts: []api.Part{}, Items: []api.Item{}, Parents: []api.Key{}}
	room := api.Object{Data: make([]byte, 0, 9), Parts: make([]api.Part, 0, 9), Items: make([]api.Item, 0, 9), Parents: make([]api.Key, 0, 9)}
	for _, a := range []api.Object{{}, empty, room} {
		for _, b := range []api.Object{{}, empty, room} {
			if !object.Same(a, b) {
				t.Errorf("P4.6: %v and %v are not the same", a, b)
			}
		}
		for name, f := range foreign() {
			b := api.Object{}
			f.lay(&b)
			if object.Same(a, b) || object.Same(b, a) {
				t.Errorf("P4.6: the same, but for %s", name)
			}
		}
	}
}

// P4.8: Decode of Encode, Encode of Decode.
func TestThereAndBack(t *testing.T) {
	x := dice(6)
	all := []api.Object{sized(t, 8192), blob(x.bytes(8191)), tree(items(128)...), list(make([]api.Part, 128)...)}
	for range 3000 {
		all = append(all, x.object())
	}
	for _, o := range all {
		b, no := object.Encode(o)
		if no != api.OK {
			t.Fatalf("P4.8: %v: %v", o, no)
		}
		back, no := object.Decode(b)
		if no != api.OK || !object.Same(back, o) {
			t.Fatalf("P4.8: %v comes back as %v, %v", o, back, no)
		}
		if again, no := object.Encode(back); no != api.OK || !bytes.Equal(again, b) {
			t.Fatalf("P4.8: % x comes back as % x, %v", b, again, no)
		}
	}
}

// P4.8: unlike objects have unlike encodings, and unlike keys.
func TestUnlikeEncodings(t *testing.T) {
	x := dice(7)
	var all []api.Object
	for _, s := range samples() {
		all = append(all, s.o, blob(s.want)) // an encoding as a blob's Data is another object
	}
	for range 400 {
		o := x.object()
		all = append(all, o)
		switch { // and one beside it that is nearly the same
		case len(o.Parts) > 0:
			o.Parts = slices.Clone(o.Parts)
			o.Parts[0].Size ^= 1
		case len(o.Items) > 0:
			o.Items = slices.Clone(o.Items)
			o.Items[len(o.Items)-1].Name += "\x01"
		case o.Kind == api.Snap:
			o.Time = ^o.Time
		default:
			o.Kind = api.Blob
			o.Data = append(slices.Clone(o.Data), 0)
		}
		all = append(all, o)
	}
	codes := make([][]byte, len(all))
	keys := make([]api.Key, len(all))
	for i, o := range all {
		codes[i], _ = object.Encode(o)
		keys[i], _ = object.KeyOf(o)
		if len(codes[i]) == 0 {
			t.Fatalf("P4.8: %v has no encoding", o)
		}
		for j := range i {
			if same := object.Same(o, all[j]); same != bytes.Equal(codes[i], codes[j]) || same != (keys[i] == keys[j]) {
				t.Fatalf("P4.8: %v and %v: the same is %v, % x and % x", o, all[j], same, codes[i], codes[j])
			}
		}
	}
}
