package key_test

import (
	"strings"
	"testing"

	"gleaner/api"
	"gleaner/key"
)

func wantFound(t *testing.T, s *key.Set, prefix string, want api.Key) {
	t.Helper()
	if k, e := key.Find(s, prefix); e != api.OK || k != want {
		t.Errorf("P3.8: Find %q: %x, %d; want %x", prefix, k, e, want)
	}
}

func wantNotFound(t *testing.T, s *key.Set, prefix string, want api.Errno) {
	t.Helper()
	if k, e := key.Find(s, prefix); e != want || k != (api.Key{}) {
		t.Errorf("P3.8: Find %q: %x, %d; want %d", prefix, k, e, want)
	}
}

// P3.8: the examples.
func TestFindOfTheExamples(t *testing.T) {
	a, b, c := example()
	s := key.NewSet(a, b)
	wantFound(t, s, "ab", b)
	wantFound(t, s, "0", a)
	wantNotFound(t, s, "", api.ErrTwo)
	wantNotFound(t, s, "abc", api.ErrNone)
	wantNotFound(t, s, "AB", api.ErrHex)
	wantNotFound(t, key.NewSet(b, c), "ab00", api.ErrTwo)
}

// P3.8: the empty prefix begins all digits.
func TestFindOfTheEmptyPrefix(t *testing.T) {
	a, b, c := example()
	wantNotFound(t, key.NewSet(), "", api.ErrNone)
	wantFound(t, key.NewSet(b), "", b)
	wantFound(t, key.NewSet(api.Key{}), "", api.Key{})
	wantNotFound(t, key.NewSet(a, b), "", api.ErrTwo)
	wantNotFound(t, key.NewSet(a, b, c), "", api.ErrTwo)
}

// P3.8: 1 to 64 digits, odd numbers too: one key alone, none, and more than one.
func TestFindOfEveryLength(t *testing.T) {
	k := key.Of([]byte("a key"))
	h := key.Hex(k)
	far := of(^k[0], 32)
	for n := 1; n <= 64; n++ {
		wantFound(t, key.NewSet(k, far), h[:n], k)
		wantNotFound(t, key.NewSet(far), h[:n], api.ErrNone)
		other := "0"
		if h[n-1] == '0' {
			other = "1"
		}
		wantNotFound(t, key.NewSet(k, far), h[:n-1]+other, api.ErrNone)
		near := digits(t, h[:n-1]+other) // shares n - 1 digits with k
		both := key.NewSet(k, far, near)
		wantFound(t, both, h[:n], k)
		wantFound(t, both, h[:n-1]+other, near)
		if n > 1 {
			wantNotFound(t, both, h[:n-1], api.ErrTwo)
		}
	}
}

// P3.8: more than 64 bytes, whatever they are, and signs that are no digits, at every place.
func TestFindOfWrongPrefixes(t *testing.T) {
	k := key.Of([]byte("another key"))
	h := key.Hex(k)
	sets := []*key.Set{key.NewSet(k), key.NewSet(), nil, new(key.Set), key.NewSet(wide(20)...)}
	for _, s := range sets {
		wantNotFound(t, s, h+"0", api.ErrHex)
		wantNotFound(t, s, h+h, api.ErrHex)
		wantNotFound(t, s, strings.Repeat("0", 1<<16), api.ErrHex)
		for _, n := range []int{1, 2, 5, 63, 64} {
			for at := range n {
				for _, sign := range []byte("/:`gAFx \n\x00\xff") {
					wantNotFound(t, s, h[:at]+string([]byte{sign})+h[at+1:n], api.ErrHex)
				}
			}
		}
		wantNotFound(t, s, strings.ToUpper(h), api.ErrHex)
		wantNotFound(t, s, "ffx", api.ErrHex) // no key begins so either: the form is asked first
	}
}

// P3.8: in what is no set nothing is found.
func TestFindInNoSet(t *testing.T) {
	for what, s := range nothing() {
		for _, prefix := range []string{"", "0", "ab", strings.Repeat("0", 64)} {
			if k, e := key.Find(s, prefix); e != api.ErrNone || k != (api.Key{}) {
				t.Errorf("P3.8: Find %q in %s: %x, %d", prefix, what, k, e)
			}
		}
	}
}

// P3.8: many keys that lie close together, held against a plain count.
func TestFindByDice(t *testing.T) {
	x := dice(21)
	for range 60 {
		var keys []api.Key
		for range 1 + x.throw(12) {
			keys = append(keys, api.Key{byte(x.throw(3)), byte(16 * x.throw(3)), byte(x.throw(2))})
		}
		s := key.NewSet(keys...)
		for range 40 {
			prefix := key.Hex(keys[x.throw(len(keys))])[:x.throw(8)]
			if x.throw(3) == 0 {
				prefix += "1"
			}
			begin := picked(order(keys), func(k api.Key) bool { return strings.HasPrefix(key.Hex(k), prefix) })
			switch len(begin) {
			case 0:
				wantNotFound(t, s, prefix, api.ErrNone)
			case 1:
				wantFound(t, s, prefix, begin[0])
			default:
				wantNotFound(t, s, prefix, api.ErrTwo)
			}
		}
	}
}

func wantShort(t *testing.T, s *key.Set, k api.Key, want string) {
	t.Helper()
	if got, e := key.Short(s, k); e != api.OK || got != want {
		t.Errorf("P3.9: Short of %x: %q, %d; want %q", k, got, e, want)
	}
}

func wantNoShort(t *testing.T, s *key.Set, k api.Key) {
	t.Helper()
	if got, e := key.Short(s, k); e != api.ErrNone || got != "" {
		t.Errorf("P3.9: Short of %x, which is not there: %q, %d", k, got, e)
	}
}

// P3.9: the examples.
func TestShortOfTheExamples(t *testing.T) {
	a, b, c := example()
	wantShort(t, key.NewSet(a, b), b, "ab00")
	wantShort(t, key.NewSet(b, c), b, key.Hex(b))
	wantShort(t, key.NewSet(b, c), c, key.Hex(c))
	wantNoShort(t, key.NewSet(a), b)
}

// P3.9: a key alone has four digits, whatever it is.
func TestShortOfAKeyAlone(t *testing.T) {
	for _, k := range wide(20) {
		wantShort(t, key.NewSet(k), k, key.Hex(k)[:4])
	}
}

// P3.9: one digit more than is shared, and no fewer than four; also where the other one lies below, and where keys share less.
func TestShortOfKeysThatShare(t *testing.T) {
	k := digits(t, strings.Repeat("7", 64))
	far := digits(t, "9")
	for sharedDigits := range 64 {
		want := key.Hex(k)[:max(4, sharedDigits+1)]
		for _, next := range []string{"6", "8"} {
			other := digits(t, strings.Repeat("7", sharedDigits)+next)
			wantShort(t, key.NewSet(k, other), k, want)
			wantShort(t, key.NewSet(k, other), other, key.Hex(other)[:max(4, sharedDigits+1)])
			wantShort(t, key.NewSet(k, other, far), k, want)
			wantShort(t, key.NewSet(far, digits(t, "78"), other, k), k, key.Hex(k)[:max(4, sharedDigits+1)])
			wantShort(t, key.NewSet(k, other, far), far, "9000")
		}
	}
}

// P3.9: a key that is not there, though another begins as it does.
func TestShortOfAKeyThatIsNotThere(t *testing.T) {
	a, b, c := example()
	wantNoShort(t, key.NewSet(), a)
	wantNoShort(t, key.NewSet(), api.Key{})
	wantNoShort(t, key.NewSet(a, c), b)
	gone := key.NewSet(a, b)
	gone.Del(b)
	wantNoShort(t, gone, b)
	for _, s := range nothing() {
		wantNoShort(t, s, api.Key{})
		wantNoShort(t, s, a)
	}
}

// P3.9 and P3.10: the least number for which Find is the key, and Find of it is the key.
func TestShortIsFoundAndTheLeast(t *testing.T) {
	x := dice(22)
	for range 40 {
		s := key.NewSet()
		for range 1 + x.throw(15) {
			k := api.Key{byte(x.throw(2)), byte(x.throw(2)), byte(16 * x.throw(2)), byte(x.throw(20))}
			k[31] = byte(x.throw(2))
			s.Add(k)
		}
		n := s.Len()
		for k := range s.All() {
			short, e := key.Short(s, k)
			if e != api.OK || len(short) < api.MinShort || !strings.HasPrefix(key.Hex(k), short) {
				t.Fatalf("P3.9: Short of %x: %q, %d", k, short, e)
			}
			if got, e := key.Find(s, short); e != api.OK || got != k {
				t.Errorf("P3.10: Find of Short of %x, %q: %x, %d", k, short, got, e)
			}
			for m := api.MinShort; m < len(short); m++ {
				if _, e := key.Find(s, short[:m]); e != api.ErrTwo {
					t.Errorf("P3.9: Short of %x is %q, and %d digits of it say %d", k, short, m, e)
				}
			}
		}
		if s.Len() != n {
			t.Errorf("P3.9: Find and Short changed the set: %d keys, had %d", s.Len(), n)
		}
	}
}

// P3.8 and P3.9: Find and Short leave the set as it is.
func TestFindAndShortLeaveTheSet(t *testing.T) {
	keys := wide(25)
	s := key.NewSet(keys...)
	for _, k := range keys {
		short, _ := key.Short(s, k)
		wantFound(t, s, short, k)
	}
	key.Find(s, "")
	key.Find(s, "abcdef0123456789")
	wantKeys(t, "P3.9: the set behind Find and Short", s, keys...)
}
