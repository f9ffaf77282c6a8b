package grey_test

import (
	"strconv"
	"testing"
)

// P15.2: At and Set of each place, and of none.
func TestPlaces(t *testing.T) {
	both(t, "P15.2: At", texts("a b c"), `
		At 0 1 2            | a b c
		At -1 n n+1 -n least greatest | - - - - - -
		All                 | [a b c]`)
	both(t, "P15.2: Set", texts("a b c"), `
		Set 0=x             | true
		All                 | [x b c]
		Set 2=z             | true
		All                 | [x b z]
		Set 1=y 1=w         | true true
		All                 | [x w z]
		At 0 1 2            | x w z`)
	both(t, "P15.2: Set of no place", texts("a b c"), `
		Set -1=x n=x n+1=x -n=x least=x greatest=x | false false false false false false
		All                 | [a b c]
		Len                 | 3
		PushTop d           | 4
		PushBottom z        | 5
		All                 | [z a b c d]`)
	both(t, "P15.2: of one", texts("a"), `
		At 0 1 -1           | a - -
		Set 1=x -1=x        | false false
		All                 | [a]
		Set 0=x             | true
		All                 | [x]`)
	both(t, "P15.2: of none", nil, `
		At 0 1 -1 least greatest | - - - - -
		Set 0=x 1=x -1=x least=x greatest=x | false false false false false
		All                 | []
		PushTop a           | 1
		All                 | [a]`)
}

// P15.2: At and Set while the row grows and becomes shorter at both ends.
func TestPlacesMove(t *testing.T) {
	both(t, "P15.2: at both ends", texts("a b"), `
		PushBottom z        | 3
		At 0 1 2 3          | z a b -
		Set 0=y             | true
		PopTop 1            | b:2
		At 0 1 2            | y a -
		Set 2=x             | false
		PushTop c d         | 3 4
		At 0 1 2 3 4        | y a c d -
		PopBottom 2         | y:3 a:2
		At 0 1 2            | c d -
		Set 1=e             | true
		PopTop 3            | e:1 c:0 -:0
		At 0                | -`)
}

// P15.2: each place, and some others, of rows that lie in all ways in their memory; a Set is seen at its place and nowhere else.
func TestPlacesShaped(t *testing.T) {
	for n := range 9 {
		for k, d := range shaped(n) {
			label := "P15.2: " + strconv.Itoa(n) + " values, row " + strconv.Itoa(k)
			want := counted(n)
			for _, i := range outside(n) {
				is(t, label+": Set of "+strconv.Itoa(i), d.Set(i, 99), false)
			}
			holds(t, label+": behind Sets of no place", d, want)
			for i := range n {
				want[i] = -i - 100
				is(t, label+": Set of "+strconv.Itoa(i), d.Set(i, want[i]), true)
				holds(t, label+": behind Set of "+strconv.Itoa(i), d, want)
			}
			if t.Failed() {
				return
			}
		}
	}
}

// P15.2: what a Set of no place was handed is not met later, when the row has that place.
func TestSetOfNoPlace(t *testing.T) {
	for n := range 6 {
		for k, d := range shaped(n) {
			for _, i := range outside(n) {
				d.Set(i, 99)
			}
			like := &plain[int]{counted(n)}
			for _, x := range []calls[int]{d, like} {
				x.PushTop(0)
				x.Turn(1)
				x.PushBottom(0)
			}
			holds(t, "P15.2: "+strconv.Itoa(n)+" values, row "+strconv.Itoa(k), d, like.list)
		}
	}
}
