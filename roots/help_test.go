package roots_test

import (
	"strconv"
	"strings"
	"testing"

	"gleaner/api"
	"gleaner/roots"
)

// calls is all that a table can be asked: Roots and the plain one of plain_test.go have it.
type calls interface {
	Set(name string, k api.Key) api.Errno
	Drop(name string) api.Errno
	Get(name string) (api.Key, api.Errno)
	Next(after string, any bool) (api.Root, bool)
	Len() int
	All() []api.Root
	Version() uint64
	At(version uint64) ([]api.Root, api.Errno)
	Turns(from, to uint64) ([]api.Turn, api.Errno)
}

// made is a new table.
func made(t *testing.T) *roots.Roots {
	t.Helper()
	r := roots.New()
	if r == nil {
		t.Fatal("P13.2: no table")
	}
	return r
}

// from is a table of a list that may be.
func from(t *testing.T, list []api.Root) *roots.Roots {
	t.Helper()
	r, no := roots.From(list)
	if r == nil || no != api.OK {
		t.Fatalf("P13.2: no table: %s", code(no))
	}
	return r
}

// is holds two answers against one another.
func is[T comparable](t *testing.T, what string, got, want T) {
	t.Helper()
	if got != want {
		t.Errorf("%s:\n got %v\nwant %v", what, got, want)
	}
}

// code is an error's word.
func code(no api.Errno) string {
	switch no {
	case api.OK:
		return "OK"
	case api.ErrNil:
		return "ErrNil"
	case api.ErrName:
		return "ErrName"
	case api.ErrRoots:
		return "ErrRoots"
	case api.ErrRoot:
		return "ErrRoot"
	case api.ErrVersion:
		return "ErrVersion"
	}
	return no.Error()
}

// keyed is the key of a word: 0 is the zero one; of two letters the second stands in the key's last byte.
func keyed(word string) api.Key {
	var k api.Key
	if word != "0" {
		k[0] = word[0]
		k[31] = word[len(word)-1]
	}
	return k
}

// letters is a key's word.
func letters(k api.Key) string {
	switch {
	case k == api.Key{}:
		return "0"
	case k[0] == k[31]:
		return string(k[:1])
	}
	return string([]byte{k[0], k[31]})
}

// text is the name of a word: in quotes, if it has what no word can have.
func text(word string) string {
	if !strings.HasPrefix(word, `"`) {
		return word
	}
	s, err := strconv.Unquote(word)
	if err != nil {
		panic(err)
	}
	return s
}

// read are the roots of words: name=key.
func read(words ...string) []api.Root {
	var out []api.Root
	for _, w := range words {
		name, k, _ := strings.Cut(w, "=")
		out = append(out, api.Root{Name: text(name), Key: keyed(k)})
	}
	return out
}

// listed are a list's words.
func listed(list []api.Root) string {
	var out []string
	for _, x := range list {
		out = append(out, x.Name+"="+letters(x.Key))
	}
	return strings.Join(out, " ")
}

// found is what Get answered; a key beside an error shows.
func found(k api.Key, no api.Errno) string {
	switch {
	case no == api.OK:
		return letters(k)
	case k != api.Key{}:
		return code(no) + letters(k)
	}
	return code(no)
}

// stepped is what Next answered; a root beside a false shows.
func stepped(x api.Root, ok bool) string {
	switch {
	case ok:
		return x.Name + "=" + letters(x.Key)
	case x != api.Root{}:
		return "-" + x.Name + "=" + letters(x.Key)
	}
	return "-"
}

// steps is all that Next tells, from the least on.
func steps(x calls) string {
	var out []string
	for r, ok := x.Next("zz", true); ok; r, ok = x.Next(r.Name, false) {
		out = append(out, stepped(r, true))
	}
	return strings.Join(out, " ")
}

// at is what At answered; a list beside an error shows.
func at(list []api.Root, no api.Errno) string {
	if no == api.OK {
		return "[" + listed(list) + "]"
	}
	return code(no) + listed(list)
}

// side is what a turn tells of one version: '-', if the name was no root; a key beside that shows.
func side(is bool, k api.Key) string {
	switch {
	case is:
		return letters(k)
	case k != api.Key{}:
		return "-" + letters(k)
	}
	return "-"
}

// turned is what Turns answered: name:old>new.
func turned(list []api.Turn, no api.Errno) string {
	var out []string
	for _, x := range list {
		out = append(out, x.Name+":"+side(x.Had, x.Old)+">"+side(x.Has, x.New))
	}
	if no == api.OK {
		return "[" + strings.Join(out, " ") + "]"
	}
	return code(no) + strings.Join(out, " ")
}

func number(word string) uint64 {
	n, err := strconv.ParseUint(word, 10, 64)
	if err != nil {
		panic(err)
	}
	return n
}

// call does what a line says, and tells the answers:
//
//	Set name=key .. | Drop name .. | Get name .. | Next after .. | Next any after ..
//	All | steps (All's, by Next) | At version .. | Turns from to | books (Len and Version)
func call(x calls, line string) string {
	words := strings.Fields(line)
	what, words := words[0], words[1:]
	any := what == "Next" && words[0] == "any"
	if any {
		words = words[1:]
	}
	switch what {
	case "All":
		return listed(x.All())
	case "steps":
		return steps(x)
	case "books":
		return strconv.Itoa(x.Len()) + " " + strconv.FormatUint(x.Version(), 10)
	case "Turns":
		return turned(x.Turns(number(words[0]), number(words[1])))
	}
	var out []string
	for _, w := range words {
		switch what {
		case "Set":
			root := read(w)[0]
			out = append(out, code(x.Set(root.Name, root.Key)))
		case "Drop":
			out = append(out, code(x.Drop(text(w))))
		case "Get":
			out = append(out, found(x.Get(text(w))))
		case "Next":
			out = append(out, stepped(x.Next(text(w), any)))
		case "At":
			out = append(out, at(x.At(number(w))))
		default:
			panic("no such call: " + line)
		}
	}
	return strings.Join(out, " ")
}

// plays does lines of the form 'call | answer', one behind the other.
func plays(t *testing.T, what string, x calls, lines string) {
	t.Helper()
	for i, line := range strings.Split(strings.TrimSpace(lines), "\n") {
		asked, want, ok := strings.Cut(line, "|")
		if !ok {
			t.Fatal("no answer in the line", line)
		}
		is(t, what+": line "+strconv.Itoa(i+1)+": "+strings.TrimSpace(asked), call(x, asked), strings.TrimSpace(want))
	}
}

// both plays lines on a table and on the plain one: a line that the chapter's words do not bear out shows.
func both(t *testing.T, what string, lines string) {
	t.Helper()
	plays(t, what+" (plain)", plainNew(), lines)
	plays(t, what, made(t), lines)
}

// alike holds all that is to be seen of a table against the plain one: the present version, every version, and the turns between all of them.
func alike(t *testing.T, what string, x, p calls) {
	t.Helper()
	for _, line := range []string{"books", "All", "steps"} {
		is(t, what+": "+line, call(x, line), call(p, line))
	}
	top := p.Version()
	for v := range top + 3 {
		is(t, what+": At "+strconv.FormatUint(v, 10), at(x.At(v)), at(p.At(v)))
		for w := range top + 3 {
			is(t, what+": Turns "+strconv.FormatUint(v, 10)+" "+strconv.FormatUint(w, 10), turned(x.Turns(v, w)), turned(p.Turns(v, w)))
		}
	}
}

// dice throws numbers that look like chance and are the same in each run.
type dice uint64

func (x *dice) throw(n int) int {
	*x = *x*6364136223846793005 + 1442695040888963407
	return int(uint64(*x)>>33) % n
}

// numbered are n names, which rise with their numbers.
func numbered(n int) []api.Root {
	var out []api.Root
	for i := range n {
		out = append(out, api.Root{Name: "n" + strconv.Itoa(100+i), Key: api.Key{byte(i + 1)}})
	}
	return out
}
