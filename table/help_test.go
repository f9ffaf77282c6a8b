package table_test

import (
	"iter"
	"strconv"
	"strings"
	"testing"

	"gleaner/table"
)

// calls is all that a table can be asked: a Table and the plain one of plain_test.go have it.
type calls[K comparable, V any] interface {
	Get(k K) (V, bool)
	Put(k K, v V) (V, bool)
	Del(k K) (V, bool)
	Len() int
	Cap() int
	Tombs() int
	Left() int
	Probes(k K) int
	All() iter.Seq2[K, V]
}

// texts is a table of texts under numbers: the one that scripts play on.
type texts = calls[int, string]

// itself is the hash of the chapter's examples.
func itself(k int) uint64 { return uint64(k) }

// made is a new table.
func made(t *testing.T, hash func(int) uint64) *table.Table[int, string] {
	t.Helper()
	x := table.New[int, string](hash)
	if x == nil {
		t.Fatal("P11.1: no table")
	}
	return x
}

// is holds two answers against one another.
func is[T comparable](t *testing.T, what string, got, want T) {
	t.Helper()
	if got != want {
		t.Errorf("%s:\n got %v\nwant %v", what, got, want)
	}
}

func number(word string) int {
	n, err := strconv.Atoi(word)
	if err != nil {
		panic(err)
	}
	return n
}

// answer is a value and whether it was there: '-', if not; a value that is told nevertheless shows.
func answer(v string, ok bool) string {
	switch {
	case ok:
		return "'" + v + "'"
	case v != "":
		return "-" + v
	}
	return "-"
}

// asked are the keys of a script's words: 5, or 5..8 for 5, 6, 7, 8.
func asked(words []string) []int {
	var out []int
	for _, w := range words {
		from, to, many := strings.Cut(w, "..")
		if !many {
			to = from
		}
		for k := number(from); k <= number(to); k++ {
			out = append(out, k)
		}
	}
	return out
}

// call does what a line says, and tells the answers:
//
//	Put key[=value] .. | Get key .. | Del key .. | Probes key .. | All
//	books: Len, Cap, Tombs and Left
//
// A key without a value is put with itself as a text; of several Puts or Dels that all answer '-' one '-' is told.
func call(x texts, line string) string {
	words := strings.Fields(line)
	var out []string
	switch words[0] {
	case "Put":
		for _, w := range words[1:] {
			word, v, given := strings.Cut(w, "=")
			for _, k := range asked([]string{word}) {
				if !given {
					v = strconv.Itoa(k)
				}
				out = append(out, answer(x.Put(k, v)))
			}
		}
		return folded(out)
	case "Get":
		for _, k := range asked(words[1:]) {
			out = append(out, answer(x.Get(k)))
		}
		return folded(out)
	case "Del":
		for _, k := range asked(words[1:]) {
			out = append(out, answer(x.Del(k)))
		}
		return folded(out)
	case "Probes":
		for _, k := range asked(words[1:]) {
			out = append(out, strconv.Itoa(x.Probes(k)))
		}
		return strings.Join(out, " ")
	case "All":
		return all(x)
	case "books":
		return books(x)
	}
	panic("no such call: " + line)
}

// folded joins answers; if none was there, one stands for all.
func folded(out []string) string {
	for _, a := range out {
		if a != "-" {
			return strings.Join(out, " ")
		}
	}
	return "-"
}

// all is what All goes through; a value that is its key as a text is not shown.
func all(x texts) string {
	var out []string
	for k, v := range x.All() {
		if key := strconv.Itoa(k); v == key {
			out = append(out, key)
		} else {
			out = append(out, key+"="+v)
		}
	}
	return strings.Join(out, " ")
}

// books is Len, Cap, Tombs and Left.
func books[K comparable, V any](x calls[K, V]) string {
	var out []string
	for _, n := range []int{x.Len(), x.Cap(), x.Tombs(), x.Left()} {
		out = append(out, strconv.Itoa(n))
	}
	return strings.Join(out, " ")
}

// plays does lines of the form 'call | answer', one behind the other.
func plays(t *testing.T, what string, x texts, lines string) {
	t.Helper()
	for i, line := range strings.Split(strings.TrimSpace(lines), "\n") {
		asked, want, ok := strings.Cut(line, "|")
		if !ok {
			t.Fatal("no answer in the line", line)
		}
		is(t, what+": line "+strconv.Itoa(i+1)+": "+strings.TrimSpace(asked), call(x, asked), strings.TrimSpace(want))
	}
}

// both plays lines on a table and on the plain one: a line that the chapter's words do not bear out shows.
func both(t *testing.T, what string, hash func(int) uint64, lines string) {
	t.Helper()
	plays(t, what+" (plain)", newPlain[int, string](hash), lines)
	plays(t, what, made(t, hash), lines)
}

// dice throws numbers that look like chance and are the same in each run.
type dice uint64

func (x *dice) throw(n int) int {
	*x = *x*6364136223846793005 + 1442695040888963407
	return int(uint64(*x)>>33) % n
}
