package sweep_test

import (
	"slices"
	"strconv"
	"strings"
	"testing"
)

// letters are the bytes of drawn keys.
const letters = "abcdefghijklmnopqrstuvwxyz"

// drawnKey is the word of one of so many keys.
func drawnKey(some *dice, pool int) string {
	switch n := some.throw(pool); {
	case n == 0:
		return "0"
	case n == 1:
		return "~"
	case n < 20:
		return letters[n : n+1]
	default:
		return letters[n%26:n%26+1] + letters[n/26:n/26+1]
	}
}

// epochs are the words of drawn ones.
var epochs = []string{"5", "5", "4", "5", "0", "greatest"}

func drawnEpoch(some *dice) string { return epochs[some.throw(len(epochs))] }

// drawnRoom is the word of a room, or of none.
func drawnRoom(some *dice) string {
	n := strconv.Itoa(some.throw(rooms))
	switch some.throw(12) {
	case 0:
		return []string{"none", "below", "far", "least"}[some.throw(4)]
	case 1:
		return n + "+"
	case 2:
		return n + ">"
	}
	return n
}

// drawnLine is one that call of help_test.go does.
func drawnLine(some *dice, pool int) string {
	key := drawnKey(some, pool)
	switch n := some.throw(40); {
	case n < 15:
		return "put " + key + "=" + drawnEpoch(some) + "/" + drawnRoom(some)
	case n < 17:
		return "del " + key
	case n < 20:
		return "mark " + drawnEpoch(some) + " " + key
	case n < 22:
		return "move " + key + " " + strconv.Itoa(some.throw(rooms))
	case n < 23:
		return "dead " + strconv.Itoa(some.throw(waiting))
	case n < 24:
		return "Act 3"
	}
	return "Act"
}

// kind is that of a line: what an act did besides.
func kind(p *plain, line, answer string, out, live int) string {
	what, _, _ := strings.Cut(line, " ")
	switch {
	case line != "Act":
		return what
	case answer == "true":
		return "Act: none"
	case p.Removed() == out:
		return "Act: it stays"
	case len(p.alive) < live:
		return "Act: it goes, and is dead"
	}
	return "Act: it goes"
}

// P17.1 to P17.6: drawn calls, beside others that put, take out, mark, move and say that a record is dead; each answer, Removed, the entries and the live rooms held against a plain sweeper over plain lists.
func TestDrawn(t *testing.T) {
	met := map[string]int{}
	for game := range 60 {
		some := dice(1717 + game)
		pool := []int{2, 5, 12, 40, 150}[game%5]
		s, p := made(t), newPlain()
		for n := range 500 {
			line := drawnLine(&some, pool)
			if some.throw([]int{12, 40, 150}[game%3]) == 0 {
				line = "New " + drawnEpoch(&some)
			}
			label := "game " + strconv.Itoa(game) + ", call " + strconv.Itoa(n) + ": " + line
			out, live := p.Removed(), len(p.alive)
			want := call(p, line)
			is(t, label, call(s, line), want)
			is(t, label+": Removed", s.Removed(), p.Removed())
			is(t, label+": the entries", slices.Equal(s.entries(), p.entries()), true)
			is(t, label+": the live rooms", slices.Equal(s.live(), p.live()), true)
			met[kind(p, line, want, out, live)]++
			if t.Failed() {
				return
			}
		}
	}
	for _, w := range []string{"New", "put", "del", "mark", "move", "dead", "Act: none", "Act: it stays", "Act: it goes, and is dead", "Act: it goes"} {
		if met[w] < 400 {
			t.Errorf("drawn: %s: %d times", w, met[w])
		}
	}
}

// P17.1 to P17.6: drawn calls over many entries, so that the acts go far.
func TestDrawnLong(t *testing.T) {
	for game := range 6 {
		some := dice(17 + game)
		s, p := made(t), newPlain()
		for n := range 1500 {
			line := drawnLine(&some, 600)
			if n < 400 {
				line = "put " + drawnKey(&some, 600) + "=" + drawnEpoch(&some) + "/" + drawnRoom(&some)
			}
			label := "game " + strconv.Itoa(game) + ", call " + strconv.Itoa(n) + ": " + line
			is(t, label, call(s, line), call(p, line))
			if n%50 == 0 {
				is(t, label+": the entries", slices.Equal(s.entries(), p.entries()), true)
				is(t, label+": the live rooms", slices.Equal(s.live(), p.live()), true)
			}
			if t.Failed() {
				return
			}
		}
		is(t, "Removed", s.Removed(), p.Removed())
		is(t, "the entries", listed(s.entries()), listed(p.entries()))
	}
}
