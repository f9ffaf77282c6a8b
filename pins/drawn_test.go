package pins_test

import (
	"strconv"
	"strings"
	"testing"

	"gleaner/key"
)

// drawnSession is now and then a number that is no session's.
func drawnSession(some *dice, pool int) string {
	if some.throw(12) == 0 {
		return []string{"-1", "16", "least", "greatest", "31", "-16"}[some.throw(6)]
	}
	return strconv.Itoa((some.throw(pool)*5 + 3) % 16)
}

// drawnCall is a line that call of help_test.go does; a calm game closes seldom, so that much is pinned.
func drawnCall(some *dice, pool int, calm bool) string {
	s := drawnSession(some, pool)
	k := words[some.throw(len(words))]
	switch n := some.throw(24); {
	case n < 4:
		return "Open " + s
	case n < 6 && calm:
		return "Busy " + s
	case n < 8:
		return "Close " + s
	case n < 14:
		return "Pin " + s + "/" + k
	case n < 16:
		return "Enter " + s
	case n < 19:
		return "Leave " + s
	case n < 20:
		return "Has " + s + "/" + k
	case n < 21:
		return "Next " + s + "/" + k
	case n < 22:
		return "All " + s + "/" + k
	case n < 23:
		return "Count " + k
	}
	return "IsOpen " + s
}

// P14.1 to P14.6: drawn calls, each answer and all that is to be seen behind it held against plain lists.
func TestDrawn(t *testing.T) {
	met := map[string]int{}
	for game := range 24 {
		some := dice(1400 + game)
		pool := []int{1, 2, 5, 16}[game%4]
		p, like := made(t), &plain{}
		for n := range 400 {
			line := drawnCall(&some, pool, game%3 == 0)
			label := "game " + strconv.Itoa(game) + ", call " + strconv.Itoa(n) + ": " + line
			want := call(like, line)
			is(t, label, call(p, line), want)
			alike(t, label+": seen", p, like)
			met[counted(line, want)]++
			if t.Failed() {
				return
			}
		}
	}
	for _, w := range []string{"Open OK", "Open ErrOpen", "Open ErrSession", "Close OK", "Close ErrBusy", "Close ErrSession", "Pin OK", "Pin ErrSession", "Enter OK", "Enter ErrSession", "Leave OK", "Leave ErrState", "Leave ErrSession", "Has true", "Has false", "Next told", "Next -", "All told", "All -", "Count told", "IsOpen true", "IsOpen false"} {
		if met[w] < 30 {
			t.Errorf("drawn: %s: %d times", w, met[w])
		}
	}
}

// counted is the kind of a call and of its answer.
func counted(line, answer string) string {
	word, _, _ := strings.Cut(line, " ")
	switch {
	case strings.HasPrefix(answer, "Err"), answer == "OK", answer == "-", answer == "true", answer == "false":
		return word + " " + answer
	}
	return word + " told"
}

// P14.1 to P14.6: many keys in many sessions, held against plain lists now and then.
func TestDrawnMany(t *testing.T) {
	keys := digests(80)
	for game := range 4 {
		some := dice(41 + game)
		p, like := made(t), &plain{}
		for n := range 2500 {
			s, k := some.throw(16), keys[some.throw(len(keys))]
			what := "Pin"
			switch some.throw(40) {
			case 0:
				what = "Close"
				is(t, what, p.Close(s), like.Close(s))
			case 1, 2, 3:
				what = "Open"
				is(t, what, p.Open(s), like.Open(s))
			case 4:
				what = "Enter"
				is(t, what, p.Enter(s), like.Enter(s))
			case 5, 6:
				what = "Leave"
				is(t, what, p.Leave(s), like.Leave(s))
			default:
				is(t, what, p.Pin(s, k), like.Pin(s, k))
			}
			label := "game " + strconv.Itoa(game) + ", call " + strconv.Itoa(n) + ": " + what
			is(t, label+": Has", p.Has(s, k), like.Has(s, k))
			is(t, label+": Count", p.Count(k), like.Count(k))
			got, ok := p.Next(s, k, false)
			want, wants := like.Next(s, k, false)
			is(t, label+": Next", got, want)
			is(t, label+": Next", ok, wants)
			if n%100 == 99 {
				same(t, label+": Sessions", whole(p), whole(like))
			}
			if t.Failed() {
				return
			}
		}
	}
}

// whole is what Sessions tells, with whole keys.
func whole(x calls) string {
	var out strings.Builder
	for _, one := range x.Sessions() {
		out.WriteString(strconv.Itoa(one.Number) + " " + strconv.Itoa(one.Busy))
		for _, k := range one.Pins {
			out.WriteString(" " + key.Hex(k))
		}
		out.WriteString("\n")
	}
	return out.String()
}
