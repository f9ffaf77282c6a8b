package pins_test

import (
	"testing"

	"gleaner/api"
	"gleaner/key"
)

// P14.2: Pin of a new key, of one that is pinned already, of the least and the greatest one.
func TestPin(t *testing.T) {
	both(t, "P14.2: Pin", `
		Open 2              | OK
		Has 2/a 2/0         | false false
		Pin 2/a             | OK
		Has 2/a 2/0 2/b     | true false false
		Pin 2/a 2/a         | OK OK
		Has 2/a 2/ab        | true false
		Sessions            | 2:0[a]
		Pin 2/0             | OK
		Has 2/0             | true
		Pin 2/0             | OK
		Sessions            | 2:0[0 a]
		Pin 2/~             | OK
		Has 2/~             | true
		Pin 2/ab 2/~ 2/B    | OK OK OK
		Sessions            | 2:0[0 B a ab ~]
		Count 0 B a ab ~ b  | 1 1 1 1 1 0
		IsOpen 2            | true`)
}

// P14.2: Pin, Has and IsOpen of numbers that are no session's, and of sessions that are not open.
func TestPinOfNone(t *testing.T) {
	both(t, "P14.2: no session", `
		Open 0 15           | OK OK
		Pin -1/a 16/a least/a greatest/a 32/0 | ErrSession ErrSession ErrSession ErrSession ErrSession
		Has -1/a 16/a least/a greatest/a 32/0 | false false false false false
		IsOpen -1 16 least greatest 32 | false false false false false
		Pin 1/a 14/0        | ErrSession ErrSession
		Has 1/a 14/0        | false false
		IsOpen 1 14 0 15    | false false true true
		Count a 0           | 0 0
		Sessions            | 0:0[] 15:0[]
		Pin 15/a            | OK
		Close 15            | OK
		Pin 15/a            | ErrSession
		Has 15/a            | false
		Count a             | 0`)
}

// P14.2: what one session pins another does not.
func TestPinAlone(t *testing.T) {
	both(t, "P14.2: each its own", `
		Open 0 1 2          | OK OK OK
		Pin 0/a 1/b 0/c 1/c | OK OK OK OK
		Has 0/a 0/b 0/c     | true false true
		Has 1/a 1/b 1/c     | false true true
		Has 2/a 2/b 2/c     | false false false
		Close 0             | OK
		Has 0/a 0/c 1/c     | false false true
		Sessions            | 1:0[b c] 2:0[]`)
}

// P14.2: keys that are unlike in one byte alone, whichever it is, are two.
func TestUnlikeInOneByte(t *testing.T) {
	p := made(t)
	p.Open(0)
	base := key.Of([]byte("base"))
	is(t, "P14.2: Pin", p.Pin(0, base), api.OK)
	for i := range base {
		for bit := range 8 {
			k := base
			k[i] ^= 1 << bit
			is(t, "P14.2: it is not pinned", p.Has(0, k), false)
			is(t, "P14.2: Pin", p.Pin(0, k), api.OK)
			is(t, "P14.2: it is pinned", p.Has(0, k), true)
		}
	}
	is(t, "P14.2: all of them", len(p.Sessions()[0].Pins), 1+256)
}

// P14.2: a session that is busy pins as another does, and to pin does not make it busier.
func TestPinWhileBusy(t *testing.T) {
	both(t, "P14.2: a busy session", `
		Open 7              | OK
		Enter 7             | OK
		Pin 7/a 7/b 7/a     | OK OK OK
		Sessions            | 7:1[a b]
		Leave 7             | OK
		Sessions            | 7:0[a b]`)
}

// P14.2: a key that is changed behind Pin stays pinned as it was.
func TestKeyIsCopied(t *testing.T) {
	p := made(t)
	p.Open(0)
	k := keyed("a")
	p.Pin(0, k)
	k[0] = 'b'
	is(t, "P14.2: as it was", listed(p.Sessions()), "0:0[a]")
}
