package grey_test

import (
	"slices"
	"strconv"
	"testing"

	"gleaner/grey"
)

// P15.1: NewDeque of no value, of one, of several.
func TestNewDeque(t *testing.T) {
	holds(t, "P15.1: of none", made[int](t), nil)
	holds(t, "P15.1: of none", made(t, []int{}...), nil)
	holds(t, "P15.1: of one", made(t, 7), []int{7})
	holds(t, "P15.1: of one, the zero value", made(t, ""), []string{""})
	holds(t, "P15.1: of several", made(t, 5, 6, 5, 0, 8), []int{5, 6, 5, 0, 8})
	for n := range 40 {
		holds(t, "P15.1: of "+strconv.Itoa(n), made(t, counted(n)...), counted(n))
	}
}

// P15.1, P0.1: a list that was handed in is written over behind the call, and is not written to, spare room included.
func TestNewDequeOfList(t *testing.T) {
	whole := counted(12)
	d := made(t, whole[:5]...)
	for _, v := range []int{21, 22, 23} {
		d.PushTop(v)
		d.PushBottom(-v)
	}
	d.Set(0, 99)
	d.Turn(4)
	d.PopTop()
	d.PopBottom()
	is(t, "P0.1: the list that was handed in", slices.Equal(whole, counted(12)), true)

	d = made(t, whole[:5]...)
	for i := range whole {
		whole[i] = -1
	}
	holds(t, "P15.1: the list written over", d, counted(5))
	d.PushTop(6)
	holds(t, "P15.1: and one more", d, counted(6))
}

// P15.1: PushTop and PushBottom onto an empty row and onto longer ones, Len behind each.
func TestPush(t *testing.T) {
	both(t, "P15.1: at the top", nil, `
		PushTop a           | 1
		All                 | [a]
		PushTop b c d e     | 2 3 4 5
		All                 | [a b c d e]
		Len                 | 5`)
	both(t, "P15.1: at the bottom", nil, `
		PushBottom a        | 1
		All                 | [a]
		PushBottom b c d e  | 2 3 4 5
		All                 | [e d c b a]
		Len                 | 5`)
	both(t, "P15.1: at both", texts("m"), `
		PushTop n           | 2
		PushBottom l        | 3
		All                 | [l m n]
		PushBottom k j      | 4 5
		PushTop o n m       | 6 7 8
		All                 | [j k l m n o n m]`)
}

// P15.1: PopTop and PopBottom until there is none, and once more; pushed onto again.
func TestPop(t *testing.T) {
	both(t, "P15.1: from the top", texts("a b c d"), `
		PopTop 6            | d:3 c:2 b:1 a:0 -:0 -:0
		All                 | []
		PushTop e           | 1
		PopTop 2            | e:0 -:0
		PushBottom f g      | 1 2
		PopTop 3            | f:1 g:0 -:0`)
	both(t, "P15.1: from the bottom", texts("a b c d"), `
		PopBottom 6         | a:3 b:2 c:1 d:0 -:0 -:0
		All                 | []
		PushBottom e        | 1
		PopBottom 2         | e:0 -:0
		PushTop f g         | 1 2
		PopBottom 3         | f:1 g:0 -:0`)
	both(t, "P15.1: from both", texts("a b c d e"), `
		PopTop 1            | e:4
		PopBottom 2         | a:3 b:2
		All                 | [c d]
		PopTop 1            | d:1
		PopBottom 2         | c:0 -:0
		PopTop 1            | -:0`)
	both(t, "P15.1: of no value", nil, `
		PopTop 2            | -:0 -:0
		PopBottom 2         | -:0 -:0
		All                 | []
		PushTop a           | 1
		All                 | [a]`)
}

// The chapter's examples.
func TestChapter(t *testing.T) {
	both(t, "the examples", texts("1 2 3"), `
		PopBottom 1         | 1:2
		PopTop 3            | 3:1 2:0 -:0`)
	both(t, "the examples", texts("a b"), `
		PushTop c           | 3
		PushBottom z        | 4
		All                 | [z a b c]
		At 3 4 -1           | c - -
		Set 1=q             | true
		At 1                | q`)
	both(t, "the examples", texts("1 2 3"), `
		Turn 1 -2           | [2 3 1] [3 1 2]`)
	both(t, "the examples", nil, `
		Turn 5              | []
		Len                 | 0`)
	bothLists(t, "the examples", `
		Push a b            | 1 2
		Bump top bottom     | b1[a0 b1] a1[a1 b1]
		All                 | [a1 b1]
		Pop bottom          | a1[b1]
		Bottom              | b1
		Push a              | 2
		Len                 | 2`)
}

// ends are the four calls that change a row of numbers at an end.
var ends = []struct {
	name string
	do   func(x calls[int])
}{
	{"PushTop", func(x calls[int]) { x.PushTop(77) }},
	{"PushBottom", func(x calls[int]) { x.PushBottom(88) }},
	{"PopTop", func(x calls[int]) { x.PopTop() }},
	{"PopBottom", func(x calls[int]) { x.PopBottom() }},
}

// P15.1: each of them, of rows that lie in all ways in their memory, full ones among them; and each behind each other.
func TestEnds(t *testing.T) {
	for n := range 9 {
		for i, first := range ends {
			for j, second := range ends {
				like := &plain[int]{counted(n)}
				first.do(like)
				then := like.list
				second.do(like)
				for k, d := range shaped(n) {
					label := "P15.1: " + strconv.Itoa(n) + " values, row " + strconv.Itoa(k) + ": " + first.name
					first.do(d)
					if i == j {
						holds(t, label, d, then)
					}
					second.do(d)
					holds(t, label+", "+second.name, d, like.list)
				}
				if t.Failed() {
					return
				}
			}
		}
	}
}

// The rows of help_test.go are what they say.
func TestShaped(t *testing.T) {
	for n := range 12 {
		for k, d := range shaped(n) {
			holds(t, "row "+strconv.Itoa(k)+" of "+strconv.Itoa(n), d, counted(n))
		}
	}
}

// P15.1: very many times at each end, Len behind each.
func TestMany(t *testing.T) {
	const many = 70000
	d := made[int](t)
	for i := range many {
		d.PushTop(i)
		d.PushBottom(-i)
		if d.Len() != 2*i+2 {
			t.Fatalf("P15.1: Len %d, not %d", d.Len(), 2*i+2)
		}
	}
	at := 1 - many
	for i, v := range d.All() {
		want := at + i
		if want > 0 {
			want--
		}
		if v != want {
			t.Fatalf("P15.1: %d at %d, not %d", v, i, want)
		}
	}
	for i := many - 1; i >= 0; i-- {
		top, a := d.PopTop()
		bottom, b := d.PopBottom()
		if top != i || bottom != -i || !a || !b || d.Len() != 2*i {
			t.Fatalf("P15.1: %d, %d, with %d left, not %d", top, bottom, d.Len(), i)
		}
	}
	holds(t, "P15.1: behind all", d, nil)
}

// P0.1: two rows, changed in turns.
func TestApart(t *testing.T) {
	values := texts("a b c")
	x, y := made(t, values...), made(t, values...)
	lined(t, "one", `
		PushTop d           | 4
		Set 0=q             | true
		Turn 2              | [c d q b]`, func(line string) string { return call(x, line) })
	lined(t, "the other", `
		All                 | [a b c]
		PopBottom 1         | a:2
		PushBottom y z      | 3 4
		Set 3=r             | true`, func(line string) string { return call(y, line) })
	holds(t, "P0.1: the one", x, texts("c d q b"))
	holds(t, "P0.1: the other", y, texts("z y b r"))
	holds(t, "P0.1: none", grey.NewDeque[string](), nil)
}
