package grey_test

import (
	"iter"
	"math"
	"slices"
	"strconv"
	"strings"
	"testing"

	"gleaner/api"
	"gleaner/grey"
)

// calls is all that a row can be asked: a Deque and the plain one of plain_test.go have it.
type calls[T any] interface {
	PushTop(v T)
	PushBottom(v T)
	PopTop() (T, bool)
	PopBottom() (T, bool)
	At(i int) (T, bool)
	Set(i int, v T) bool
	Len() int
	Turn(n int)
	All() iter.Seq2[int, T]
}

// asks is all that a work list can be asked.
type asks interface {
	Push(k api.Key)
	Top() (api.Grey, bool)
	Bottom() (api.Grey, bool)
	Bump(bottom bool) (api.Grey, bool)
	Pop(bottom bool) (api.Grey, bool)
	Len() int
	All() []api.Grey
}

// is holds two answers against one another.
func is[T comparable](t *testing.T, what string, got, want T) {
	t.Helper()
	if got != want {
		t.Errorf("%s:\n got %v\nwant %v", what, got, want)
	}
}

// made is a row of some values.
func made[T any](t *testing.T, values ...T) *grey.Deque[T] {
	t.Helper()
	d := grey.NewDeque(values...)
	if d == nil {
		t.Fatal("P15.1: NewDeque answers nil")
	}
	return d
}

// madeList is an empty work list.
func madeList(t *testing.T) *grey.List {
	t.Helper()
	l := grey.New()
	if l == nil {
		t.Fatal("P15.5: New answers nil")
	}
	return l
}

// number is an int; least and greatest are those of all, and n is how many there are, n+1 and n-1 one more and less.
func number(word string, n int) int {
	switch word {
	case "least":
		return math.MinInt
	case "greatest":
		return math.MaxInt
	case "n":
		return n
	case "-n":
		return -n
	case "n+1":
		return n + 1
	case "n-1":
		return n - 1
	}
	i, err := strconv.Atoi(word)
	if err != nil {
		panic(err)
	}
	return i
}

// told is a text that was answered: '-', if there was none; one beside a false shows.
func told(v string, ok bool) string {
	switch {
	case ok:
		return v
	case v != "":
		return "-" + v
	}
	return "-"
}

// one does a call of a row of texts, and tells its answer.
func one(x calls[string], what, word string) string {
	left, right, _ := strings.Cut(word, "=")
	switch what {
	case "PushTop":
		x.PushTop(word)
		return strconv.Itoa(x.Len())
	case "PushBottom":
		x.PushBottom(word)
		return strconv.Itoa(x.Len())
	case "At":
		return told(x.At(number(left, x.Len())))
	case "Set":
		return strconv.FormatBool(x.Set(number(left, x.Len()), right))
	case "Turn":
		x.Turn(number(left, x.Len()))
		return row(x)
	}
	panic("no such call: " + what)
}

// call does what a line says, and tells the answers:
//
//	PushTop v .. | PushBottom v .. (Len behind each) | PopTop times | PopBottom times | Len
//	At place .. | Set place=v .. | Turn n .. (the row behind each) | All
func call(x calls[string], line string) string {
	words := strings.Fields(line)
	var out []string
	switch words[0] {
	case "Len":
		return strconv.Itoa(x.Len())
	case "All":
		return row(x)
	case "PopTop", "PopBottom":
		pop := x.PopTop
		if words[0] == "PopBottom" {
			pop = x.PopBottom
		}
		for range number(words[1], x.Len()) {
			v, ok := pop()
			out = append(out, told(v, ok)+":"+strconv.Itoa(x.Len()))
		}
		return strings.Join(out, " ")
	}
	for _, w := range words[1:] {
		out = append(out, one(x, words[0], w))
	}
	return strings.Join(out, " ")
}

// row is what All tells, in brackets; a place that is not the next one shows.
func row(x calls[string]) string {
	var out []string
	for i, v := range x.All() {
		if i != len(out) {
			v = strconv.Itoa(i) + "?" + v
		}
		out = append(out, v)
	}
	return "[" + strings.Join(out, " ") + "]"
}

// lined does lines of the form 'call | answer', one behind the other.
func lined(t *testing.T, what, lines string, do func(line string) string) {
	t.Helper()
	for i, line := range strings.Split(strings.TrimSpace(lines), "\n") {
		asked, want, ok := strings.Cut(line, "|")
		if !ok {
			t.Fatal("no answer in the line", line)
		}
		is(t, what+": line "+strconv.Itoa(i+1)+": "+strings.TrimSpace(asked), do(asked), strings.TrimSpace(want))
	}
}

// both plays lines on a row of some texts and on the plain one: a line that the chapter's words do not bear out shows.
func both(t *testing.T, what string, values []string, lines string) {
	t.Helper()
	like, d := &plain[string]{values}, made(t, values...)
	lined(t, what+" (plain)", lines, func(line string) string { return call(like, line) })
	lined(t, what, lines, func(line string) string { return call(d, line) })
	holds(t, what, d, like.list)
}

// texts are some.
func texts(line string) []string { return strings.Fields(line) }

// holds tells whether a row is just these values, in each way in which it can be asked without a change.
func holds[T comparable](t *testing.T, what string, x calls[T], want []T) {
	t.Helper()
	is(t, what+": Len", x.Len(), len(want))
	n := 0
	for i, v := range x.All() {
		if i != n || n >= len(want) || v != want[n] {
			t.Errorf("%s: All tells %d, %v as its number %d of %v", what, i, v, n, want)
		}
		n++
	}
	is(t, what+": how many All tells", n, len(want))
	for i, w := range want {
		if v, ok := x.At(i); !ok || v != w {
			t.Errorf("%s: At(%d): %v, %v, not %v of %v", what, i, v, ok, w, want)
		}
	}
	var zero T
	for _, i := range outside(len(want)) {
		if v, ok := x.At(i); ok || v != zero {
			t.Errorf("%s: At(%d) of %v: %v, %v", what, i, want, v, ok)
		}
	}
}

// outside are some places that a row of n has not.
func outside(n int) []int {
	return []int{-1, n, -2, n + 1, -n - 1, 2*n + 1, 2*n + 2, 4*n + 3, math.MinInt, math.MinInt + 1, math.MaxInt, math.MaxInt - 1, math.MinInt32, math.MaxInt32}
}

// counted are the numbers 1 to n.
func counted(n int) []int {
	var out []int
	for i := range n {
		out = append(out, i+1)
	}
	return out
}

// shaped are rows of the numbers 1 to n that came to be in many ways, so that they lie in their memory in many ways: from its beginning on or round its end, filling it or not.
func shaped(n int) []*grey.Deque[int] {
	var out []*grey.Deque[int]
	for k := range 2*n + 4 {
		out = append(out, turned(n, k), onTop(n, k), onBottom(n, k), carried(n, k), carriedBack(n, k))
	}
	return out
}

// turned had k of its values go from the bottom to the top.
func turned(n, k int) *grey.Deque[int] {
	var from []int
	for i := range n {
		from = append(from, (i+(n-k%n))%n+1)
	}
	d := grey.NewDeque(from...)
	for range k {
		if v, ok := d.PopBottom(); ok {
			d.PushTop(v)
		}
	}
	return d
}

// onTop had k others below, which are gone.
func onTop(n, k int) *grey.Deque[int] {
	d := grey.NewDeque(make([]int, k)...)
	for i := range n {
		d.PushTop(i + 1)
	}
	for range k {
		d.PopBottom()
	}
	return d
}

// onBottom had k others above, which are gone.
func onBottom(n, k int) *grey.Deque[int] {
	d := grey.NewDeque(make([]int, k)...)
	for i := range n {
		d.PushBottom(n - i)
	}
	for range k {
		d.PopTop()
	}
	return d
}

// carried had k others and then its own values pushed at the top, for each of which one was taken off at the bottom.
func carried(n, k int) *grey.Deque[int] {
	d := grey.NewDeque(make([]int, n)...)
	d.PushTop(0)
	for _, v := range append(make([]int, k), counted(n)...) {
		d.PushTop(v)
		d.PopBottom()
	}
	d.PopBottom()
	return d
}

// carriedBack is the same from the other end.
func carriedBack(n, k int) *grey.Deque[int] {
	d := grey.NewDeque(make([]int, n)...)
	d.PushBottom(0)
	values := append(make([]int, k), counted(n)...)
	slices.Reverse(values[k:])
	for _, v := range values {
		d.PushBottom(v)
		d.PopTop()
	}
	d.PopTop()
	return d
}

// keyed is the key of a letter.
func keyed(letter byte) api.Key { return api.Key{letter, 31: letter} }

// greyed is a Grey in words: its letter and its Next.
func greyed(g api.Grey) string {
	name := string(g.Key[:1])
	if g.Key == (api.Key{}) {
		name = "0"
	} else if g.Key != keyed(g.Key[0]) {
		name = "?"
	}
	return name + strconv.Itoa(g.Next)
}

// toldGrey is an answer: '-' if there was nothing; a Grey beside a false shows.
func toldGrey(g api.Grey, ok bool) string {
	switch {
	case ok:
		return greyed(g)
	case g != api.Grey{}:
		return "-" + greyed(g)
	}
	return "-"
}

// list is what All answers, in brackets.
func list(x asks) string {
	var out []string
	for _, g := range x.All() {
		out = append(out, greyed(g))
	}
	return "[" + strings.Join(out, " ") + "]"
}

// ask does what a line says, and tells the answers:
//
//	Push letter .. (Len behind each) | Bump end .. | Pop end .. (the list behind each) | Top | Bottom | Len | All
//
// An end is top or bottom.
func ask(x asks, line string) string {
	words := strings.Fields(line)
	var out []string
	switch words[0] {
	case "Top":
		return toldGrey(x.Top())
	case "Bottom":
		return toldGrey(x.Bottom())
	case "Len":
		return strconv.Itoa(x.Len())
	case "All":
		return list(x)
	case "Push":
		for _, w := range words[1:] {
			x.Push(keyed(w[0]))
			out = append(out, strconv.Itoa(x.Len()))
		}
	case "Bump":
		for _, w := range words[1:] {
			out = append(out, toldGrey(x.Bump(w == "bottom"))+list(x))
		}
	case "Pop":
		for _, w := range words[1:] {
			out = append(out, toldGrey(x.Pop(w == "bottom"))+list(x))
		}
	default:
		panic("no such call: " + line)
	}
	return strings.Join(out, " ")
}

// bothLists plays lines on a work list and on the plain one.
func bothLists(t *testing.T, what string, lines string) {
	t.Helper()
	like, l := &plainList{}, madeList(t)
	lined(t, what+" (plain)", lines, func(line string) string { return ask(like, line) })
	lined(t, what, lines, func(line string) string { return ask(l, line) })
	alike(t, what, l, like)
}

// seen is all that can be asked of a work list without a change.
func seen(x asks) string {
	return "Len " + strconv.Itoa(x.Len()) + ", Bottom " + toldGrey(x.Bottom()) + ", Top " + toldGrey(x.Top()) + ", All " + list(x)
}

// alike holds all of it of two against one another.
func alike(t *testing.T, what string, got, want asks) {
	t.Helper()
	is(t, what, seen(got), seen(want))
}

// dice throws numbers that look like chance and are the same in each run.
type dice uint64

func (x *dice) throw(n int) int {
	*x = *x*6364136223846793005 + 1442695040888963407
	return int(uint64(*x)>>33) % n
}
