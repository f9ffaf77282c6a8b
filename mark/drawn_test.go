package mark_test

import (
	"strconv"
	"strings"
	"testing"

	"gleaner/api"
)

// letters are the bytes of drawn keys.
const letters = "abcdefghijklmnopqrstuvwxyz"

// drawnKey is the word of one of so many keys.
func drawnKey(some *dice, pool int) string {
	switch n := some.throw(pool); {
	case n == 0:
		return "0"
	case n == 1:
		return "~"
	case n < 20:
		return letters[n : n+1]
	default:
		return letters[n%26:n%26+1] + letters[n/26:n/26+1]
	}
}

// drawnKeys are some of them.
func drawnKeys(some *dice, pool, n int) string {
	var out []string
	for range n {
		out = append(out, drawnKey(some, pool))
	}
	return strings.Join(out, " ")
}

func drawnEnd(some *dice) string { return []string{"top", "bottom"}[some.throw(2)] }

// drawnLine is one that call of help_test.go does; a rough game spoils and takes out more.
func drawnLine(some *dice, pool int, epoch string, rough bool) string {
	key := drawnKey(some, pool)
	switch n := some.throw(40); {
	case n < 2:
		return "blob " + key
	case n < 5:
		return "list " + key + " " + drawnKeys(some, pool, some.throw(4))
	case n < 8:
		return "tree " + key + " " + drawnKeys(some, pool, some.throw(5))
	case n < 11:
		return "snap " + key + " " + drawnKeys(some, pool, 1+some.throw(6))
	case n < 12 || n < 14 && rough:
		return "del " + key
	case n < 15:
		return "spoil " + key
	case n < 16:
		return "mark " + []string{"0", "1", "2", "greatest"}[some.throw(4)] + " " + key
	case n < 17:
		return "push " + key
	case n < 18:
		return "bump " + drawnEnd(some)
	case n < 19 && rough:
		return "pop " + drawnEnd(some)
	case n < 23:
		return "Kids " + key
	case n < 29:
		return "Touch " + epoch + " " + key
	}
	return "Piece " + epoch + " " + drawnEnd(some)
}

// kind is that of a line and of its answer.
func kind(line, answer string, before, after []api.Grey) string {
	what, _, _ := strings.Cut(line, " ")
	first, rest, _ := strings.Cut(answer, " ")
	no, _, _ := strings.Cut(rest, " ")
	switch {
	case what == "Kids" && strings.HasPrefix(answer, "["):
		return "Kids told"
	case what == "Kids":
		return "Kids " + answer
	case what == "Touch":
		return "Touch " + first
	case what != "Piece" || first == "false" || no != "OK":
		return what + " " + first + " " + no
	case len(after) < len(before):
		return "Piece: taken off"
	case len(after) > len(before):
		return "Piece: a kid is pushed"
	}
	return "Piece: a kid is gone by"
}

// P16.1 to P16.5: drawn calls, beside others that put, take out, spoil, mark, push and take off; each answer, each mark and the list held against plain lists.
func TestDrawn(t *testing.T) {
	met := map[string]int{}
	for game := range 40 {
		some := dice(1600 + game)
		pool := []int{2, 5, 12, 40, 150}[game%5]
		s, p := made(t), &plain{}
		epoch := "1"
		for n := range 700 {
			if some.throw(60) == 0 {
				epoch = []string{"0", "1", "2", "greatest"}[some.throw(4)]
			}
			line := drawnLine(&some, pool, epoch, game%2 == 0)
			label := "game " + strconv.Itoa(game) + ", call " + strconv.Itoa(n) + ": " + line
			before := p.greys()
			want := call(p, line)
			is(t, label, call(s, line), want)
			sameAs(t, label, s, p)
			met[kind(line, want, before, p.greys())]++
			if t.Failed() {
				return
			}
		}
	}
	for _, w := range []string{"Touch true", "Touch false", "Kids told", "Kids ErrGone", "Kids ErrBroken", "Piece false OK", "Piece true ErrGone", "Piece true ErrBroken", "Piece: taken off", "Piece: a kid is pushed", "Piece: a kid is gone by"} {
		if met[w] < 200 {
			t.Errorf("drawn: %s: %d times", w, met[w])
		}
	}
}

// P16.1 to P16.5: long lists, of which each end is worked at for long.
func TestDrawnLong(t *testing.T) {
	for game := range 6 {
		some := dice(80 + game)
		s, p := made(t), &plain{}
		for i := range 400 {
			kids := make([]api.Key, some.throw(9))
			for j := range kids {
				kids[j] = numbered(some.throw(500))
			}
			o := thing([]string{"list", "tree"}[i%2], kids...)
			s.put(numbered(i), o, 0)
			p.put(numbered(i), o, 0)
		}
		for n := range 4000 {
			label := "game " + strconv.Itoa(game) + ", call " + strconv.Itoa(n)
			epoch := uint32(1 + n/2000)
			if some.throw(50) == 0 || len(p.list) == 0 {
				k := numbered(some.throw(500))
				is(t, label+": Touch", s.Touch(k, epoch), p.Touch(k, epoch))
				continue
			}
			end := n/(1+300*(game%2))%2 == 0
			is(t, label+": Piece", pieceTold(s.Piece(epoch, end)), pieceTold(p.Piece(epoch, end)))
			if n%40 == 0 {
				sameAs(t, label, s, p)
			}
			if t.Failed() {
				return
			}
		}
		sameAs(t, "at the end", s, p)
	}
}
