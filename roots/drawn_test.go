package roots_test

import (
	"strconv"
	"testing"

	"gleaner/api"
	"gleaner/roots"
)

// drawnName is now and then one that may not be.
func drawnName(some *dice, pool int) string {
	if some.throw(25) == 0 {
		return []string{"", "A", "a\tb", "n1é", "nnnnnnnnnnnnnnnnnnnnnnnnnnnnnnnnn"}[some.throw(5)]
	}
	return []string{"n", "m/", "m", "-", "n/"}[some.throw(5)] + strconv.Itoa(some.throw((pool+4)/5))
}

// drawnCall is a line that call of help_test.go does.
func drawnCall(some *dice, pool int, top uint64) string {
	name := strconv.Quote(drawnName(some, pool))
	version := func() string {
		if some.throw(10) == 0 {
			return strconv.FormatUint(top+uint64(some.throw(3)), 10)
		}
		return strconv.Itoa(some.throw(int(top) + 1))
	}
	switch some.throw(12) {
	case 0, 1, 2, 3:
		return "Set " + name + "=" + []string{"K", "L", "0"}[some.throw(3)]
	case 4, 5:
		return "Drop " + name
	case 6:
		return "Get " + name
	case 7:
		return "Next " + name
	case 8:
		return "Next any " + name
	case 9:
		return "At " + version()
	}
	return "Turns " + version() + " " + version()
}

// P13.1 to P13.9: drawn calls, each answer and what is to be seen behind it held against plain lists, one for each version.
func TestDrawn(t *testing.T) {
	met := map[string]int{}
	for game := range 24 {
		some := dice(1300 + game)
		pool := []int{3, 10, 40, 100, 200, 400}[game%6]
		r, p := started(t, &some)
		for n := range 900 {
			line := drawnCall(&some, pool, p.Version())
			if pool >= 100 && n < 150 {
				line = "Set " + strconv.Quote(drawnName(&some, pool)) + "=K"
			}
			label := "game " + strconv.Itoa(game) + ", call " + strconv.Itoa(n) + ": " + line
			want := call(p, line)
			is(t, label, call(r, line), want)
			is(t, label+": books", call(r, "books"), call(p, "books"))
			is(t, label+": All", call(r, "All"), call(p, "All"))
			is(t, label+": steps", call(r, "steps"), call(p, "steps"))
			met[counted(line, want)]++
			if t.Failed() {
				return
			}
		}
		for v := range p.Version() + 2 {
			w := uint64(some.throw(int(p.Version()) + 2))
			is(t, "At at the end", at(r.At(v)), at(p.At(v)))
			is(t, "Turns at the end", turned(r.Turns(v, w)), turned(p.Turns(v, w)))
		}
	}
	for _, w := range []string{"Set OK", "Set ErrName", "Set ErrRoots", "Drop OK", "Drop ErrRoot", "Drop ErrName", "Get told", "Get ErrRoot", "Get ErrName", "Next told", "Next -", "At told", "At ErrVersion", "Turns told", "Turns ErrVersion"} {
		if met[w] < 50 {
			t.Errorf("drawn: %s: %d times", w, met[w])
		}
	}
}

// started is a new table, or one of a drawn list, and the plain one.
func started(t *testing.T, some *dice) (*roots.Roots, *plain) {
	t.Helper()
	if some.throw(2) == 0 {
		return made(t), plainNew()
	}
	var list []api.Root
	for _, x := range numbered(64) {
		if some.throw(3) == 0 {
			list = append(list, x)
		}
	}
	p, no := plainFrom(list)
	is(t, "a drawn list", no, api.OK)
	return from(t, list), p
}

// counted is the kind of a call and of its answer.
func counted(line, answer string) string {
	word := line
	for i := range line {
		if line[i] == ' ' {
			word = line[:i]
			break
		}
	}
	switch answer {
	case "OK", "ErrName", "ErrRoots", "ErrRoot", "ErrVersion", "-":
		return word + " " + answer
	}
	return word + " told"
}
