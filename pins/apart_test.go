package pins_test

import (
	"strings"
	"testing"

	"gleaner/api"
	"gleaner/pins"
)

// P0.1: two of them, changed in turns.
func TestApart(t *testing.T) {
	x, y := made(t), made(t)
	plays(t, "one", x, `
		Open 0 1            | OK OK
		Pin 0/a             | OK
		Enter 0             | OK`)
	plays(t, "another", y, `
		Sessions            |
		Pin 0/b             | ErrSession
		Open 0              | OK
		Has 0/a             | false
		Count a             | 0
		Pin 0/b             | OK
		Close 1             | ErrSession`)
	plays(t, "the one again", x, `
		Sessions            | 0:1[a] 1:0[]
		Count a b           | 1 0
		Leave 0             | OK
		Close 0             | OK`)
	plays(t, "the other again", y, `
		Sessions            | 0:0[b]
		All 0/0             | b
		Leave 0             | ErrState
		Close 0             | OK`)
	plays(t, "the one at the end", x, `
		Sessions            | 1:0[]`)
}

// filled are sessions with pins of several numbers, and the plain ones.
func filled(t *testing.T) (*pins.Pins, *plain) {
	t.Helper()
	p, like := made(t), &plain{}
	for _, x := range []calls{like, p} {
		plays(t, "ahead", x, `
			Open 0 4 7 15       | OK OK OK OK
			Pin 0/b 0/a 0/z     | OK OK OK
			Pin 4/b 4/0 4/~ 4/c 4/m | OK OK OK OK OK
			Pin 15/a            | OK
			Enter 4 15 15       | OK OK OK`)
	}
	return p, like
}

// scribbled writes over all that a list has, spare room and the lists within included.
func scribbled(list []api.Session) {
	list = list[:cap(list)]
	for i := range list {
		keys := list[i].Pins[:cap(list[i].Pins)]
		for j := range keys {
			keys[j] = keyed("J")
		}
		list[i] = api.Session{Number: 3, Busy: 8, Pins: []api.Key{keyed("J")}}
	}
}

// P0.1: lists that were answered are written over, spare room included; the sessions are as they were.
func TestWrittenOver(t *testing.T) {
	p, like := filled(t)
	for range 3 {
		scribbled(p.Sessions())
		alike(t, "P0.1: answers written over", p, like)
	}
	first, second := p.Sessions(), p.Sessions()
	scribbled(first)
	is(t, "P0.1: another answer", listed(second), listed(like.Sessions()))
	for _, x := range []calls{p, like} {
		x.Pin(0, keyed("c"))
		x.Open(2)
	}
	alike(t, "P0.1: behind further calls", p, like)
}

// P0.1: lists that were answered are grown; no list of one answer lies in the room of another.
func TestGrown(t *testing.T) {
	p, like := filled(t)
	list := p.Sessions()
	want := listed(list)
	for i := range list {
		_ = append(list[i].Pins, keyed("J"), keyed("K"))
	}
	_ = append(list, api.Session{Number: 16})
	is(t, "P0.1: the answer itself", listed(list), want)
	alike(t, "P0.1: the sessions", p, like)
	for i := range list {
		keys := list[i].Pins[:cap(list[i].Pins)]
		for j := range keys {
			keys[j] = api.Key{byte('A' + i)}
		}
	}
	for i := range list {
		for _, k := range list[i].Pins {
			is(t, "P0.1: two lists of one answer", letters(k), string([]byte{byte('A' + i)}))
		}
	}
}

// P0.1: an answer stays as it was, whatever is done later.
func TestAnswerStays(t *testing.T) {
	p, _ := filled(t)
	list := p.Sessions()
	want := listed(list)
	for _, line := range []string{"Pin 0/ab 4/d 7/a", "Enter 0 4", "Leave 0 15 15", "Close 0 15", "Open 0 1"} {
		call(p, line)
		is(t, "P0.1: behind "+line, listed(list), want)
	}
}

// P0.1: a call that answers an error changes nothing, whatever the sessions are.
func TestErrorChangesNothing(t *testing.T) {
	p, like := filled(t)
	want := seen(like)
	lines := []string{
		"Open 0 4 7 15 -1 16 least greatest",
		"Close 4 15 1 14 -1 16 least greatest",
		"Pin 1/a 14/J -1/a 16/0 least/J greatest/~",
		"Enter 1 14 -1 16 least greatest",
		"Leave 0 7 1 14 -1 16 least greatest",
	}
	for _, line := range lines {
		for _, word := range strings.Fields(line)[1:] {
			what, _, _ := strings.Cut(line, " ")
			answer := one(p, what, word)
			is(t, what+" "+word, answer, one(like, what, word))
			is(t, what+" "+word+": an error", strings.HasPrefix(answer, "Err"), true)
			same(t, "P0.1: behind "+what+" "+word, seen(p), want)
		}
	}
}

// P0.1: to look changes nothing.
func TestLookingChangesNothing(t *testing.T) {
	p, like := filled(t)
	want := seen(like)
	for range 3 {
		same(t, "P0.1: looked at", seen(p), want)
	}
}

// nothing holds every call's answer against what nil ones' is to be.
func nothing(t *testing.T, what string, p *pins.Pins) {
	t.Helper()
	for range 3 {
		plays(t, what, p, `
			Open 0 15 -1 16 least greatest | ErrNil ErrNil ErrNil ErrNil ErrNil ErrNil
			Close 0 15 -1 16 least greatest | ErrNil ErrNil ErrNil ErrNil ErrNil ErrNil
			IsOpen 0 15 -1 16 least greatest | false false false false false false
			Pin 0/a 15/0 -1/a 16/~ least/a greatest/a | ErrNil ErrNil ErrNil ErrNil ErrNil ErrNil
			Has 0/a 15/0 -1/a 16/~ least/a greatest/a | false false false false false false
			Enter 0 15 -1 16 least greatest | ErrNil ErrNil ErrNil ErrNil ErrNil ErrNil
			Leave 0 15 -1 16 least greatest | ErrNil ErrNil ErrNil ErrNil ErrNil ErrNil
			Busy 0 15 -1 16 least greatest | 0 0 0 0 0 0
			Next 0/0 15/a -1/0 16/0 least/0 greatest/0 | - - - - - -
			All 0/0 15/a -1/0 16/0 least/0 greatest/0 | - - - - - -
			Count 0 a ~         | 0 0 0
			Sessions            |`)
	}
	alike(t, what+": all that can be asked", p, &plain{})
	is(t, what+": no list", len(p.Sessions()), 0)
}

// P14.7: every call on nil Pins; P0.1: a zero one is as a nil one.
func TestNil(t *testing.T) {
	nothing(t, "P14.7: nil", nil)
	nothing(t, "P0.1: zero", &pins.Pins{})
}
