package frame_test

import (
	"fmt"
	"slices"
	"testing"

	"gleaner/api"
	"gleaner/frame"
)

// run is bytes that are gone through: what All is to tell of them, and what End is.
type run struct {
	what string
	b    []byte
	all  []told
	end  int
	no   api.Errno
}

// turned is a copy of b with the byte i another.
func turned(b []byte, i int) []byte {
	b = slices.Clone(b)
	b[i] ^= 1
	return b
}

func runs() []run {
	one, ofOne := laid("ab")
	none, ofNone := laid("")
	many, ofMany := laid("a", "", "the third", string(contents(3000)[0]), "", "", string(contents(65526)[2]), "z")
	last := ofMany[len(ofMany)-1].at
	out := []run{
		{"nil", nil, nil, 0, api.OK},
		{"an empty list", []byte{}, nil, 0, api.OK},
		{"one record", one, ofOne, 12, api.OK},
		{"a record of no bytes", none, ofNone, 10, api.OK},
		{"many records", many, ofMany, len(many), api.OK},
		{"one byte", []byte{0xc7}, nil, 0, api.ErrShort},
		{"bytes that are no record", []byte("no record at all"), nil, 0, api.ErrHead},
		{"zeros", make([]byte, 4096), nil, 0, api.ErrHead},
		{"a byte ahead of a record", append([]byte{0}, one...), nil, 0, api.ErrHead},
		{"a record and a byte", append(slices.Clone(one), 0), ofOne, 12, api.ErrShort},
		{"a record and nine bytes", append(slices.Clone(one), make([]byte, 9)...), ofOne, 12, api.ErrShort},
		{"a record and ten bytes", append(slices.Clone(one), make([]byte, 10)...), ofOne, 12, api.ErrHead},
		{"a record and one with a wrong sum", append(slices.Clone(one), turned(one, 11)...), ofOne, 12, api.ErrSum},
		{"a record and one of too many bytes", append(slices.Clone(one), record(65527, contents(65527)[0])...), ofOne, 12, api.ErrHead},
		{"a record behind a wrong sum", append(turned(one, 8), one...), nil, 0, api.ErrSum},
		{"many, the last with a wrong body", turned(many, last+10), ofMany[:len(ofMany)-1], last, api.ErrSum},
		{"many, the last cut short", many[:len(many)-1], ofMany[:len(ofMany)-1], last, api.ErrShort},
	}
	for i, r := range ofMany {
		for _, at := range []int{0, 1, 2, 3, 4, 5} {
			out = append(out, run{fmt.Sprintf("many, a wrong head in record %d", i), turned(many, r.at+at), ofMany[:i], r.at, api.ErrHead})
		}
		for _, at := range []int{6, 7, 8, 9} {
			out = append(out, run{fmt.Sprintf("many, a wrong sum in record %d", i), turned(many, r.at+at), ofMany[:i], r.at, api.ErrSum})
		}
		out = append(out, run{fmt.Sprintf("many, cut within record %d", i), many[:r.at+5], ofMany[:i], r.at, api.ErrShort})
		if i > 0 {
			out = append(out, run{fmt.Sprintf("many, cut ahead of record %d", i), many[:r.at], ofMany[:i], r.at, api.OK})
		}
	}
	return out
}

func TestAllAndEnd(t *testing.T) {
	for _, r := range runs() {
		if got := walked(frame.All(r.b)); !slices.Equal(got, r.all) {
			t.Errorf("P6.4: %s: All tells %d records, or other ones than the %d", r.what, len(got), len(r.all))
		}
		if end, no := frame.End(r.b); end != r.end || no != r.no {
			t.Errorf("P6.5: %s: %d, %d, want %d, %d", r.what, end, no, r.end, r.no)
		}
		if _, _, no := frame.Unpack(r.b, r.end); r.no != api.OK && no != r.no {
			t.Errorf("P6.5: %s: Unpack at the end: %d, want %d", r.what, no, r.no)
		}
	}
}

func TestAllOfEveryCut(t *testing.T) {
	b, all := laid("a", "", "bc", "def", "")
	for cut := range len(b) + 1 {
		whole, end := 0, 0
		for whole < len(all) && all[whole].at+10+len(all[whole].body) <= cut {
			end = all[whole].at + 10 + len(all[whole].body)
			whole++
		}
		want := api.OK
		if end < cut {
			want = api.ErrShort
		}
		if got := walked(frame.All(b[:cut])); !slices.Equal(got, all[:whole]) {
			t.Errorf("P6.4: cut at %d: %v, want %v", cut, got, all[:whole])
		}
		if got, no := frame.End(b[:cut]); got != end || no != want {
			t.Errorf("P6.5: cut at %d: %d, %d, want %d, %d", cut, got, no, end, want)
		}
	}
}

func TestAllAgainAndLeftEarly(t *testing.T) {
	b, all := laid("a", "", "bc", "", "def")
	walk := frame.All(append(b, "else"...))
	for stop := range len(all) + 1 {
		var got []told
		for at, body := range walk {
			if len(got) == stop {
				break
			}
			got = append(got, told{at, string(body)})
		}
		if !slices.Equal(got, all[:stop]) {
			t.Errorf("P6.4: left at record %d: %v, want %v", stop, got, all[:stop])
		}
	}
	var outer []told
	for at, body := range walk {
		outer = append(outer, told{at, string(body)})
		if inner := walked(walk); !slices.Equal(inner, all) {
			t.Errorf("P6.4: a walk within a walk: %v, want %v", inner, all)
		}
	}
	if !slices.Equal(outer, all) {
		t.Errorf("P6.4: a walk around others: %v, want %v", outer, all)
	}
}

func TestAllTakesTheBytesAsTheyAreWhenItIsCalled(t *testing.T) {
	was, all := laid("a", "bc", string(contents(400)[0]))
	for i := range was {
		b := slices.Clone(was)
		walk := frame.All(b)
		b[i] ^= 0x5A
		if got := walked(walk); !slices.Equal(got, all) {
			t.Errorf("P6.4: the byte %d, written over behind the call, shows in the walk", i)
		}
	}
	b := slices.Clone(was)
	walk := frame.All(b)
	var got []told
	for at, body := range walk { // written over within the walk
		got = append(got, told{at, string(body)})
		scribble(b)
	}
	if again := walked(walk); !slices.Equal(got, all) || !slices.Equal(again, all) {
		t.Error("P6.4: bytes that are written over within a walk show in it or in the next one")
	}
	// What was no record when All was called does not become one.
	bad := turned(was, 0)
	walk = frame.All(bad)
	copy(bad, was)
	if got := walked(walk); len(got) != 0 {
		t.Errorf("P6.4: %d records that were made whole behind the call are told", len(got))
	}
	spare := append(slices.Clone(was), was...)
	walk = frame.All(spare[:len(was)])
	if got := walked(walk); !slices.Equal(got, all) {
		t.Error("P6.4: records in the room behind the bytes are told")
	}
}

func TestAllTellsNewMemory(t *testing.T) {
	was, all := laid("a", "", "bc", string(contents(400)[0]), "d")
	b := roomy(was)
	walk := frame.All(b)
	collect := func() (out [][]byte) {
		for _, body := range walk {
			out = append(out, body)
		}
		return out
	}
	one, two := collect(), collect()
	for i := 0; i < len(one); i += 2 {
		scribble(one[i])
	}
	for i, r := range all {
		if i%2 == 1 && string(one[i]) != r.body || string(two[i]) != r.body {
			t.Errorf("P6.4: what is written over bodies shows in body %d", i)
		}
	}
	if got := walked(walk); !slices.Equal(got, all) || !untouched(b, was) {
		t.Error("P6.4, P0.1: what is written over bodies shows in the next walk or in the bytes")
	}
	i := 0
	for at, body := range walk { // written over while the walk goes on
		if i >= len(all) || at != all[i].at || string(body) != all[i].body {
			t.Fatalf("P6.4: %q at %d", short(body), at)
		}
		scribble(body)
		i++
	}
	if got := walked(walk); !slices.Equal(got, all) {
		t.Error("P6.4: bodies that are written over within a walk show in the next one")
	}
}

func TestAllAndEndChangeNothing(t *testing.T) {
	for _, r := range runs() {
		b := roomy(r.b)
		end, no := frame.End(b)
		walked(frame.All(b))
		if !untouched(b, r.b) {
			t.Errorf("P0.1: %s: All or End changed the bytes or the room behind them", r.what)
		}
		if again, other := frame.End(b); again != end || other != no {
			t.Errorf("P6.5: %s: End asked again: %d, %d, want %d, %d", r.what, again, other, end, no)
		}
	}
}
