package pins_test

import (
	"slices"
	"strconv"
	"testing"

	"gleaner/api"
	"gleaner/pins"
)

// P14.5: Count of a key that none pins, that one pins, that several pin, that one of them pinned and is closed.
func TestCount(t *testing.T) {
	both(t, "P14.5: Count", `
		Count a 0 ~         | 0 0 0
		Open 0 1 15         | OK OK OK
		Count a 0 ~         | 0 0 0
		Pin 0/a 0/a 0/a     | OK OK OK
		Count a 0 ab        | 1 0 0
		Pin 15/a 1/b        | OK OK
		Count a b           | 2 1
		Pin 1/a 1/0         | OK OK
		Count a b 0         | 3 1 1
		Enter 1             | OK
		Count a b 0         | 3 1 1
		Close 1             | ErrBusy
		Count a b 0         | 3 1 1
		Leave 1             | OK
		Close 1             | OK
		Count a b 0         | 2 0 0
		Open 1              | OK
		Count a b 0         | 2 0 0
		Close 0 15          | OK OK
		Count a b 0         | 0 0 0`)
}

// P14.5: pinned by all of them, and by one less at each Close.
func TestCountOfAll(t *testing.T) {
	p := made(t)
	k := keyed("k")
	for s := range 16 {
		p.Open(s)
		is(t, "P14.5: ahead of the Pin", p.Count(k), s)
		p.Pin(s, k)
		is(t, "P14.5: behind the Pin", p.Count(k), s+1)
	}
	for i := range 16 {
		s := i * 11 % 16
		is(t, "P14.6: Close", p.Close(s), api.OK)
		is(t, "P14.6: behind the Close", p.Count(k), 15-i)
	}
}

// counts are Count of each key.
func counts(p calls, keys []api.Key) []int {
	var out []int
	for _, k := range keys {
		out = append(out, p.Count(k))
	}
	return out
}

// mixed are all sessions but 13, with drawn ones of these keys.
func mixed(t *testing.T, keys []api.Key) *pins.Pins {
	t.Helper()
	p := made(t)
	some := dice(14)
	for s := range 16 {
		if s == 13 {
			continue
		}
		p.Open(s)
		for _, k := range keys {
			if some.throw(3) == 0 {
				p.Pin(s, k)
			}
		}
	}
	return p
}

// P14.6: a Close takes one from Count of each key that the session pinned, and of no other.
func TestCloseTakesOne(t *testing.T) {
	keys := digests(60)
	for s := range 16 {
		p := mixed(t, keys)
		want := counts(p, keys)
		for i, k := range keys {
			if p.Has(s, k) {
				want[i]--
			}
		}
		no := api.OK
		if s == 13 {
			no = api.ErrSession
		}
		is(t, "P14.6: Close "+strconv.Itoa(s), p.Close(s), no)
		is(t, "P14.6: Count behind Close "+strconv.Itoa(s), slices.Equal(counts(p, keys), want), true)
	}
}

// P14.6: nothing else takes from Count: a session that is busy is not closed, and 13 is opened and closed with nothing in it.
func TestNothingElseTakes(t *testing.T) {
	keys := digests(60)
	p := mixed(t, keys)
	want := counts(p, keys)
	for s := -1; s < 17; s++ {
		p.Enter(s)
		p.Open(s)
		p.Close(s)
		p.Leave(s)
		p.Leave(s)
		p.Busy(s)
		p.IsOpen(s)
		p.Sessions()
		told(p, s)
		for _, k := range keys {
			if p.Has(s, k) {
				p.Pin(s, k)
			}
		}
		is(t, "P14.6: Count behind calls of "+strconv.Itoa(s), slices.Equal(counts(p, keys), want), true)
	}
}

// P14.5: Sessions: by number, however they were opened; pins rising, Busy as it is.
func TestSessions(t *testing.T) {
	both(t, "P14.5: Sessions", `
		Sessions            |
		Open 15 3 0 9       | OK OK OK OK
		Sessions            | 0:0[] 3:0[] 9:0[] 15:0[]
		Pin 3/z 3/b 3/~ 3/ab 3/0 3/a | OK OK OK OK OK OK
		Pin 15/b 15/a       | OK OK
		Enter 9 9 15        | OK OK OK
		Sessions            | 0:0[] 3:0[0 a ab b z ~] 9:2[] 15:1[a b]
		Leave 9             | OK
		Close 3 0           | OK OK
		Sessions            | 9:1[] 15:1[a b]
		Open 10 3           | OK OK
		Sessions            | 3:0[] 9:1[] 10:0[] 15:1[a b]
		Leave 9 15          | OK OK
		Close 9 15 3 10     | OK OK OK OK
		Sessions            |`)
}
