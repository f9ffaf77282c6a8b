package grey_test

import (
	"testing"

	"gleaner/api"
	"gleaner/grey"
)

// nothing holds every call's answer against what a nil row's is to be.
func nothing[T comparable](t *testing.T, what string, d *grey.Deque[T], v T) {
	t.Helper()
	var zero T
	none := func(call string, v T, ok bool) {
		t.Helper()
		if ok || v != zero {
			t.Errorf("%s: %s: %v, %v", what, call, v, ok)
		}
	}
	for range 3 {
		d.PushTop(v)
		d.PushBottom(v)
		d.PushTop(v)
		for _, i := range append(outside(0), 0, 1) {
			is(t, what+": Set", d.Set(i, v), false)
			d.Turn(i)
			at, ok := d.At(i)
			none("At", at, ok)
		}
		is(t, what+": Len", d.Len(), 0)
		walk := d.All()
		if walk == nil {
			t.Fatalf("%s: no walk", what)
		}
		for range 2 {
			for i, v := range walk {
				t.Errorf("%s: All tells %d, %v", what, i, v)
			}
		}
		top, ok := d.PopTop()
		none("PopTop", top, ok)
		bottom, ok := d.PopBottom()
		none("PopBottom", bottom, ok)
	}
	holds(t, what, d, nil)
}

// Types: a nil row has no values and takes none in; P0.1: a zero one is as a nil one.
func TestNilDeque(t *testing.T) {
	nothing(t, "a nil row", nil, 1)
	nothing(t, "a nil row", nil, "a")
	nothing(t, "a nil row", nil, 1.5)
	nothing(t, "a nil row", nil, api.Grey{Next: 1})
	nothing(t, "a nil row", nil, struct{}{})
	nothing(t, "a nil row", nil, any("a"))
	nothing(t, "a zero row", &grey.Deque[int]{}, 1)
	nothing(t, "a zero row", new(grey.Deque[string]), "a")
	nothing(t, "a zero row", new(grey.Deque[struct{}]), struct{}{})
}

// Types: a nil work list likewise.
func TestNilList(t *testing.T) {
	for what, l := range map[string]*grey.List{"a nil list": nil, "a zero list": {}} {
		for range 3 {
			l.Push(keyed('a'))
			l.Push(api.Key{})
			is(t, what, seen(l), "Len 0, Bottom -, Top -, All []")
			is(t, what+": Bump", ask(l, "Bump top bottom"), "-[] -[]")
			is(t, what+": Pop", ask(l, "Pop top bottom"), "-[] -[]")
			is(t, what+": All", len(l.All()), 0)
		}
	}
}
