package pins_test

import (
	"strconv"
	"testing"

	"gleaner/api"
)

// The chapter's examples; k is ab, j is b.
func TestChapter(t *testing.T) {
	both(t, "the examples", `
		Open 0 0 16 -1      | OK ErrOpen ErrSession ErrSession
		Pin 1/ab            | ErrSession
		Pin 0/ab 0/ab 0/b   | OK OK OK
		Count ab            | 1
		All 0/0             | ab
		Enter 0             | OK
		Close 0             | ErrBusy
		Leave 0 0           | OK ErrState
		Close 0 0           | OK ErrSession
		Open 0              | OK
		Has 0/ab            | false`)
}

// P14.1: behind New nothing is open, whatever is asked for.
func TestNew(t *testing.T) {
	p := made(t)
	alike(t, "P14.1: new ones", p, &plain{})
	is(t, "P14.5: none is open", len(p.Sessions()), 0)
	plays(t, "P14.1: new ones", p, `
		IsOpen 0 7 15 -1 16 least greatest | false false false false false false false
		Sessions            |`)
}

// P14.1: each number from 0 to 15 is one of a session; each is opened alone, and closed alone.
func TestEachNumber(t *testing.T) {
	is(t, "sessions", api.Sessions, 16)
	for s := range 16 {
		n := strconv.Itoa(s)
		p, like := made(t), &plain{}
		for _, line := range []string{"Open " + n, "Open " + n, "Pin " + n + "/a", "Enter " + n, "Close " + n, "Leave " + n, "Close " + n, "Close " + n, "Open " + n} {
			is(t, "P14.1: "+line, call(p, line), call(like, line))
			alike(t, "P14.1: behind "+line, p, like)
		}
	}
}

// P14.1: all of them open at once, closed in another order than opened.
func TestAllAtOnce(t *testing.T) {
	p := made(t)
	for i := range 16 {
		s := i * 7 % 16
		is(t, "P14.1: Open", p.Open(s), api.OK)
		is(t, "P14.1: Open again", p.Open(s), api.ErrOpen)
		is(t, "P14.5: so many are open", len(p.Sessions()), i+1)
	}
	is(t, "P14.1: one more", p.Open(16), api.ErrSession)
	for i := range 16 {
		s := i * 5 % 16
		is(t, "P14.1: Close", p.Close(s), api.OK)
		is(t, "P14.1: it is open no more", p.IsOpen(s), false)
		is(t, "P14.5: so many are left", len(p.Sessions()), 15-i)
	}
}

// P14.1: numbers that are no session's, whatever is open.
func TestNoSession(t *testing.T) {
	both(t, "P14.1: no session", `
		Open -1 16 17 32 -16 255 256 least greatest | ErrSession ErrSession ErrSession ErrSession ErrSession ErrSession ErrSession ErrSession ErrSession
		Close -1 16 17 32 -16 least greatest | ErrSession ErrSession ErrSession ErrSession ErrSession ErrSession ErrSession
		Sessions            |
		Open 0 15           | OK OK
		Open -1 16 32 least greatest | ErrSession ErrSession ErrSession ErrSession ErrSession
		Close -1 16 32 least greatest | ErrSession ErrSession ErrSession ErrSession ErrSession
		IsOpen -1 16 32 least greatest | false false false false false
		Sessions            | 0:0[] 15:0[]`)
}

// P14.1: Close of one that is not open, that is busy, that is not busy any more; twice.
func TestClose(t *testing.T) {
	both(t, "P14.1: Close", `
		Close 3             | ErrSession
		Open 3              | OK
		Close 3             | OK
		Close 3 3           | ErrSession ErrSession
		Open 3 4            | OK OK
		Pin 3/a 3/b 4/a     | OK OK OK
		Enter 3 3           | OK OK
		Close 3             | ErrBusy
		Sessions            | 3:2[a b] 4:0[a]
		Leave 3             | OK
		Close 3             | ErrBusy
		Sessions            | 3:1[a b] 4:0[a]
		Leave 3             | OK
		Close 3             | OK
		Sessions            | 4:0[a]
		IsOpen 3 4          | false true
		Has 3/a 3/b 4/a     | false false true
		Busy 3 4            | 0 0`)
}

// P14.1: one that was closed and is opened again pins nothing and is not busy, however much it had been.
func TestOpenAgain(t *testing.T) {
	both(t, "P14.1: Open again", `
		Open 5 6            | OK OK
		Pin 5/a 5/b 5/0 5/~ | OK OK OK OK
		Pin 6/b             | OK
		Enter 5 5 5 6       | OK OK OK OK
		Leave 5 5 5         | OK OK OK
		Close 5             | OK
		Open 5              | OK
		Sessions            | 5:0[] 6:1[b]
		Has 5/a 5/b 5/0 5/~ | false false false false
		Count a b 0 ~       | 0 1 0 0
		All 5/0             | -
		Next 5/0 5/a        | - -
		Busy 5              | 0
		Leave 5             | ErrState
		Pin 5/c             | OK
		Sessions            | 5:0[c] 6:1[b]
		Close 5             | OK
		Close 5             | ErrSession`)
}

// P14.1: Open of one that is open lets it stand as it is.
func TestOpenOfOpen(t *testing.T) {
	both(t, "P14.1: Open of an open one", `
		Open 9              | OK
		Pin 9/a 9/b         | OK OK
		Enter 9 9           | OK OK
		Open 9 9            | ErrOpen ErrOpen
		Sessions            | 9:2[a b]
		Leave 9 9           | OK OK
		Open 9              | ErrOpen
		Sessions            | 9:0[a b]`)
}

// P14.1: many rounds of opening and closing leave nothing behind.
func TestRounds(t *testing.T) {
	p := made(t)
	for n := range 300 {
		s := n % 16
		k := api.Key{byte(n), byte(n >> 8)}
		is(t, "Open", p.Open(s), api.OK)
		is(t, "it pins nothing", listed(p.Sessions()), strconv.Itoa(s)+":0[]")
		is(t, "Pin", p.Pin(s, k), api.OK)
		is(t, "Enter", p.Enter(s), api.OK)
		is(t, "Close", p.Close(s), api.ErrBusy)
		is(t, "Leave", p.Leave(s), api.OK)
		is(t, "Count", p.Count(k), 1)
		is(t, "Close", p.Close(s), api.OK)
		is(t, "Count", p.Count(k), 0)
	}
	alike(t, "P14.1: none is open", p, &plain{})
}
