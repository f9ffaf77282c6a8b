package pins_test

import (
	"math"
	"strconv"
	"strings"
	"testing"

	"gleaner/api"
	"gleaner/pins"
)

// calls is all that sessions can be asked: Pins and the plain ones of plain_test.go have it.
type calls interface {
	Open(s int) api.Errno
	Close(s int) api.Errno
	IsOpen(s int) bool
	Pin(s int, k api.Key) api.Errno
	Has(s int, k api.Key) bool
	Enter(s int) api.Errno
	Leave(s int) api.Errno
	Busy(s int) int
	Next(s int, after api.Key, all bool) (api.Key, bool)
	Count(k api.Key) int
	Sessions() []api.Session
}

// made are new sessions.
func made(t *testing.T) *pins.Pins {
	t.Helper()
	p := pins.New()
	if p == nil {
		t.Fatal("P14.1: New answers nil")
	}
	return p
}

// is holds two answers against one another.
func is[T comparable](t *testing.T, what string, got, want T) {
	t.Helper()
	if got != want {
		t.Errorf("%s:\n got %v\nwant %v", what, got, want)
	}
}

// code is an error's word.
func code(no api.Errno) string {
	switch no {
	case api.OK:
		return "OK"
	case api.ErrNil:
		return "ErrNil"
	case api.ErrState:
		return "ErrState"
	case api.ErrSession:
		return "ErrSession"
	case api.ErrOpen:
		return "ErrOpen"
	case api.ErrBusy:
		return "ErrBusy"
	}
	return no.Error()
}

// keyed is the key of a word: 0 is the zero one, ~ has ff all over; of two letters the first stands in the first byte and the second in the last one. So keys rise as their words do.
func keyed(word string) api.Key {
	var k api.Key
	switch {
	case word == "0":
	case word == "~":
		for i := range k {
			k[i] = 0xff
		}
	case len(word) == 1:
		k[0] = word[0]
	case len(word) == 2:
		k[0], k[31] = word[0], word[1]
	default:
		panic("no key's word: " + word)
	}
	return k
}

// letters is a key's word.
func letters(k api.Key) string {
	switch {
	case k == api.Key{}:
		return "0"
	case k == keyed("~"):
		return "~"
	case k[31] == 0:
		return string(k[:1])
	}
	return string([]byte{k[0], k[31]})
}

// number is a session's: least and greatest are those of all ints.
func number(word string) int {
	switch word {
	case "least":
		return math.MinInt
	case "greatest":
		return math.MaxInt
	}
	n, err := strconv.Atoi(word)
	if err != nil {
		panic(err)
	}
	return n
}

// stepped is what Next answered; a key beside a false shows.
func stepped(k api.Key, ok bool) string {
	switch {
	case ok:
		return letters(k)
	case k != api.Key{}:
		return "-" + letters(k)
	}
	return "-"
}

// told are all keys of a session that Next tells, from all on, each time with the one told last; a way that does not rise is given up.
func told(x calls, s int) []api.Key {
	var out []api.Key
	for k, ok := x.Next(s, keyed("m"), true); ok; k, ok = x.Next(s, k, false) {
		out = append(out, k)
		if n := len(out); n > 1 && ordered(out[n-2], k) >= 0 {
			break
		}
	}
	return out
}

// steps are their words.
func steps(x calls, s int) string {
	var out []string
	for _, k := range told(x, s) {
		out = append(out, letters(k))
	}
	return "[" + strings.Join(out, " ") + "]"
}

// listed are the words of what Sessions answers: number:busy[pins].
func listed(list []api.Session) string {
	var out []string
	for _, x := range list {
		var keys []string
		for _, k := range x.Pins {
			keys = append(keys, letters(k))
		}
		out = append(out, strconv.Itoa(x.Number)+":"+strconv.Itoa(x.Busy)+"["+strings.Join(keys, " ")+"]")
	}
	return strings.Join(out, " ")
}

// one does a call about a session or a key, and tells its answer.
func one(x calls, what, word string) string {
	left, right, _ := strings.Cut(word, "/")
	switch what {
	case "Count":
		return strconv.Itoa(x.Count(keyed(word)))
	case "Open":
		return code(x.Open(number(left)))
	case "Close":
		return code(x.Close(number(left)))
	case "IsOpen":
		return strconv.FormatBool(x.IsOpen(number(left)))
	case "Enter":
		return code(x.Enter(number(left)))
	case "Leave":
		return code(x.Leave(number(left)))
	case "Busy":
		return strconv.Itoa(x.Busy(number(left)))
	case "steps":
		return steps(x, number(left))
	case "Pin":
		return code(x.Pin(number(left), keyed(right)))
	case "Has":
		return strconv.FormatBool(x.Has(number(left), keyed(right)))
	case "Next":
		return stepped(x.Next(number(left), keyed(right), false))
	case "All":
		return stepped(x.Next(number(left), keyed(right), true))
	}
	panic("no such call: " + what)
}

// call does what a line says, and tells the answers:
//
//	Open s .. | Close s .. | IsOpen s .. | Enter s .. | Leave s .. | Busy s .. | steps s ..
//	Pin s/key .. | Has s/key .. | Next s/after .. | All s/after .. (Next with all) | Count key .. | Sessions
func call(x calls, line string) string {
	words := strings.Fields(line)
	if words[0] == "Sessions" {
		return listed(x.Sessions())
	}
	var out []string
	for _, w := range words[1:] {
		out = append(out, one(x, words[0], w))
	}
	return strings.Join(out, " ")
}

// plays does lines of the form 'call | answer', one behind the other.
func plays(t *testing.T, what string, x calls, lines string) {
	t.Helper()
	for i, line := range strings.Split(strings.TrimSpace(lines), "\n") {
		asked, want, ok := strings.Cut(line, "|")
		if !ok {
			t.Fatal("no answer in the line", line)
		}
		is(t, what+": line "+strconv.Itoa(i+1)+": "+strings.TrimSpace(asked), call(x, asked), strings.TrimSpace(want))
	}
}

// both plays lines on sessions and on the plain ones: a line that the chapter's words do not bear out shows.
func both(t *testing.T, what string, lines string) {
	t.Helper()
	plays(t, what+" (plain)", &plain{}, lines)
	plays(t, what, made(t), lines)
}

// words are some keys, the least and the greatest of all among them; they rise.
var words = []string{"0", "A", "Az", "B", "a", "ab", "ac", "b", "c", "m", "z", "zz", "~"}

// alike holds all that can be asked of two against one another, and tells the first line that is unlike.
func alike(t *testing.T, what string, got, want calls) {
	t.Helper()
	same(t, what, seen(got), seen(want))
}

// same holds two of what seen tells against one another.
func same(t *testing.T, what, got, want string) {
	t.Helper()
	lines, others := strings.Split(got, "\n"), strings.Split(want, "\n")
	for i := range min(len(lines), len(others)) {
		if lines[i] != others[i] {
			is(t, what, lines[i], others[i])
			return
		}
	}
	is(t, what+": lines", len(lines), len(others))
}

// seen is all that can be asked without a change, of all numbers near those of sessions and of the keys above.
func seen(x calls) string {
	var out strings.Builder
	tell := func(what, word string) {
		out.WriteString(what + " " + word + ": " + one(x, what, word) + "\n")
	}
	out.WriteString(call(x, "Sessions") + "\n")
	for _, w := range words {
		tell("Count", w)
	}
	for s := -2; s < api.Sessions+2; s++ {
		n := strconv.Itoa(s)
		for _, what := range []string{"IsOpen", "Busy", "steps"} {
			tell(what, n)
		}
		for _, w := range words {
			for _, what := range []string{"Has", "Next", "All"} {
				tell(what, n+"/"+w)
			}
		}
	}
	return out.String()
}

// dice throws numbers that look like chance and are the same in each run.
type dice uint64

func (x *dice) throw(n int) int {
	*x = *x*6364136223846793005 + 1442695040888963407
	return int(uint64(*x)>>33) % n
}
