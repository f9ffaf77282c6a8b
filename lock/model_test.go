package lock_test

import (
	"slices"
	"strconv"
	"strings"
	"testing"
)

// machine is the chapter's words without threads: who has what, by number; -1: nobody.
type machine struct {
	m, n, f, writer int
	queue           []int // who waits for the Fair, in the order of asking
	readers         int
	writers         int // that wait
	within          int
	value, acts     int
}

func newMachine() *machine { return &machine{m: -1, n: -1, f: -1, writer: -1} }

func (k *machine) look() string {
	writer := "-"
	if k.writer != -1 {
		writer = "w"
	}
	var s strings.Builder
	for _, n := range []int{k.m, k.n, len(k.queue), k.readers, k.within, k.acts} {
		s.WriteString(strconv.Itoa(n) + ",")
	}
	return s.String() + writer
}

// pauses is where a call lets others act: s a step, w a wait.
func pauses(word string) string {
	switch strings.TrimRight(word, "0123456789") {
	case "m.Lock", "n.Lock", "rw.RLock", "g.Wait":
		return "w"
	case "f.Lock", "rw.Lock":
		return "sw"
	case "g.Enter", "g.Leave":
		return ""
	}
	return "s"
}

// ready tells whether what a word waits for holds.
func (k *machine) ready(word string, who int) bool {
	switch word {
	case "m.Lock":
		return k.m == -1
	case "n.Lock":
		return k.n == -1
	case "f.Lock":
		return k.f == -1 && (len(k.queue) == 0 || k.queue[0] == who)
	case "rw.RLock":
		return k.writer == -1 && k.writers == 0
	case "rw.Lock":
		return k.writer == -1 && k.readers == 0
	case "g.Wait":
		return k.within == 0
	}
	return true
}

// ask is what a call does between its step and its wait.
func (k *machine) ask(word string, who int) {
	switch word {
	case "f.Lock":
		k.queue = append(k.queue, who)
	case "rw.Lock":
		k.writers++
	}
}

// give is what an Unlock does.
func give(has *int, who int) string {
	if *has != who {
		return "ErrOwner"
	}
	*has = -1
	return "OK"
}

// less is what a call does that lets one of some go.
func less(n *int) string {
	if *n == 0 {
		return "ErrOwner"
	}
	*n--
	return "OK"
}

// finish is what a call does behind its last step or wait.
func (k *machine) finish(word string, who int) string {
	switch word {
	case "m.Lock":
		k.m = who
	case "n.Lock":
		k.n = who
	case "m.TryLock":
		if k.m != -1 {
			return "falseOK"
		}
		k.m = who
		return "trueOK"
	case "m.Unlock":
		return give(&k.m, who)
	case "n.Unlock":
		return give(&k.n, who)
	case "f.Lock":
		k.queue, k.f = k.queue[1:], who
	case "f.Unlock":
		return give(&k.f, who)
	case "rw.RLock":
		k.readers++
	case "rw.RUnlock":
		return less(&k.readers)
	case "rw.Lock":
		k.writers, k.writer = k.writers-1, who
	case "rw.Unlock":
		return give(&k.writer, who)
	case "g.Enter":
		k.within++
	case "g.Leave":
		return less(&k.within)
	case "g.Wait":
	case "step":
		return ""
	default:
		return k.finishCell(word)
	}
	return "OK"
}

func (k *machine) finishCell(word string) string {
	k.acts++
	was, last := k.value, int(word[len(word)-1]-'0')
	switch strings.TrimRight(word, "0123456789") {
	case "c.Load":
		return strconv.Itoa(was)
	case "c.Store":
		k.value = last
		return "-"
	case "c.Swap":
		k.value = last
		return strconv.Itoa(was)
	}
	if was != int(word[len(word)-2]-'0') {
		return "false"
	}
	k.value = last
	return "true"
}

// alone is a call without a baton.
func (k *machine) alone(word string) string {
	if !k.ready(word, -2) {
		return "ErrAlone"
	}
	k.ask(word, -2)
	return k.finish(word, -2)
}

// actor is a thread of the machine.
type actor struct {
	who   int
	words []string
	stage int  // pauses of the first of the words that are behind it
	stood bool // it stands in the one ahead of it
	over  bool
}

func (a *actor) ready(k *machine) bool {
	if a.over {
		return false
	}
	return !a.stood || pauses(a.words[0])[a.stage] == 's' || k.ready(a.words[0], a.who)
}

// act goes on to the next pause, and tells what was answered meanwhile.
func (a *actor) act(k *machine) (said string) {
	if a.stood {
		a.stood = false
		a.stage++
	}
	for ; len(a.words) > 0; a.words, a.stage = a.words[1:], 0 {
		word := a.words[0]
		if word[0] == '~' || word[0] == '^' {
			said += " " + k.alone(word[1:])
			continue
		}
		if a.stage < len(pauses(word)) {
			if a.stage > 0 {
				k.ask(word, a.who)
			}
			a.stood = true
			return said
		}
		if answer := k.finish(word, a.who); answer != "" {
			said += " " + answer
		}
	}
	a.over = true
	return said
}

// film is what a world's film of the play is to be.
func (k *machine) film(p play) string {
	var all []*actor
	for i, program := range p.programs {
		all = append(all, &actor{who: i, words: strings.Fields(program)})
	}
	var s strings.Builder
	last, used := -1, 0
	for acts := 0; p.most == 0 || acts < p.most; acts++ {
		var ready []*actor
		for _, a := range all {
			if a.ready(k) {
				ready = append(ready, a)
			}
		}
		if len(ready) == 0 {
			return s.String() + ended(all, "ErrStuck")
		}
		next := ready[0]
		if used < len(p.picks) {
			next = ready[int(p.picks[used])%len(ready)]
			used++
		} else if i := slices.IndexFunc(ready, func(a *actor) bool { return a.who > last }); i >= 0 {
			next = ready[i]
		}
		last = next.who
		said := next.act(k)
		s.WriteString(strconv.Itoa(last) + said + ":" + k.look() + " | ")
	}
	return s.String() + ended(all, "ErrOver")
}

// ended is OK where all are over; else left tells of the others.
func ended(all []*actor, left string) string {
	if slices.ContainsFunc(all, func(a *actor) bool { return !a.over }) {
		return left
	}
	return "OK"
}

// word is any call; now and then one without a run's baton.
func (x *dice) word() string {
	all := append(strings.Fields(calls), "n.Lock", "n.Unlock", "step", "c.Cas77", "c.Cas71", "c.Store0")
	w := one(x, all...)
	if w != "step" && x.throw(6) == 0 {
		w = one(x, "~", "^") + w
	}
	return w
}

// program is pairs of a call that takes and one that lets go, with others between, and calls that are no pairs.
func (x *dice) program(pairs, loose int) string {
	var s []string
	for range x.throw(pairs + 1) {
		pair := one(x, [2]string{"m.Lock", "m.Unlock"}, [2]string{"n.Lock", "n.Unlock"}, [2]string{"f.Lock", "f.Unlock"}, [2]string{"rw.RLock", "rw.RUnlock"}, [2]string{"rw.Lock", "rw.Unlock"}, [2]string{"g.Enter", "g.Leave"})
		at := x.throw(len(s) + 1)
		s = slices.Insert(s, at, pair[0])
		s = slices.Insert(s, at+1+x.throw(len(s)-at), pair[1])
	}
	for range x.throw(loose + 1) {
		s = slices.Insert(s, x.throw(len(s)+1), x.word())
	}
	return strings.Join(s, " ")
}

func (x *dice) play(loose int) play {
	var p play
	for range 1 + x.throw(5) {
		p.programs = append(p.programs, x.program(3, loose))
	}
	if x.throw(4) > 0 {
		p.picks = x.picks(x.throw(60))
	}
	if x.throw(4) == 0 {
		p.most = 1 + x.throw(25)
	}
	return p
}

// P9.1 to P9.5: whatever the programs and picks are, each act and each answer is what the chapter's words say, and so is what a run that broke off leaves to who comes alone.
func TestModel(t *testing.T) {
	count := map[string]int{}
	x := dice(9)
	for i := range 8000 {
		w, k := made(), newMachine()
		p := x.play(4)
		got, want := w.film(p, w.look), k.film(p)
		if got != want {
			t.Fatalf("play %d, %+v:\n got %s\nwant %s", i, p, got, want)
		}
		var coda []string
		var then strings.Builder
		for range x.throw(8) {
			word := strings.TrimLeft(x.word(), "~^")
			coda = append(coda, word)
			if word != "step" {
				then.WriteString(k.alone(word) + " ")
			}
		}
		behind := strings.Join(coda, " ")
		if got, want := w.alone(behind, w.look), then.String()+":"+k.look(); got != want {
			t.Fatalf("play %d, %+v, and behind it %s:\n got %s\nwant %s", i, p, behind, got, want)
		}
		count[got[len(got)-3:]]++
	}
	// The plays must be of all kinds, else they show little.
	for _, end := range []string{" OK", "ver", "uck"} {
		if count[end] < 800 {
			t.Errorf("only %d plays end with%s", count[end], end)
		}
	}
}
