package gear_test

import (
	"slices"
	"testing"

	"gleaner/api"
	"gleaner/gear"
)

// walked is what a walk over pieces tells.
func walked(t *testing.T, r api.Cut, data []byte) []string {
	t.Helper()
	var out []string
	at := 0
	for from, piece := range gear.Pieces(r, data) {
		if from != at {
			t.Errorf("P5.4: %v: piece %d begins at %d, not at %d", r, len(out), from, at)
		}
		at += len(piece)
		out = append(out, string(piece))
	}
	return out
}

func TestPiecesAreThoseOfCut(t *testing.T) {
	for _, r := range rules {
		for name, data := range contents(15000) {
			if got, want := walked(t, r, data), parted(data, lengths(r, data)); !slices.Equal(got, want) {
				t.Errorf("P5.4, P5.7: %v, %s: other pieces than the lengths say", r, name)
			}
		}
		for n := range len(text) {
			data := []byte(text[:n])
			if got, want := walked(t, r, data), parted(data, lengths(r, data)); !slices.Equal(got, want) {
				t.Errorf("P5.4, P5.7: %v, %q: %q, want %q", r, data, got, want)
			}
		}
	}
}

func TestPiecesOfNoRuleAndOfNoData(t *testing.T) {
	for _, r := range wrong {
		if got := walked(t, r, []byte(text)); len(got) != 0 {
			t.Errorf("P5.4: of %v, which may not be: %q", r, got)
		}
	}
	for _, r := range rules {
		if got := append(walked(t, r, nil), walked(t, r, []byte{})...); len(got) != 0 {
			t.Errorf("P5.4: %v, no bytes: %q", r, got)
		}
	}
}

func TestPiecesAgainAndLeftEarly(t *testing.T) {
	data := []byte(text)
	want := parted(data, lengths(small, data))
	walk := gear.Pieces(small, data)
	for stop := range len(want) + 1 {
		var got []string
		for at, piece := range walk {
			if len(got) == stop {
				break
			}
			if string(piece) != text[at:at+len(piece)] {
				t.Errorf("P5.4: %q at %d", piece, at)
			}
			got = append(got, string(piece))
		}
		if !slices.Equal(got, want[:stop]) {
			t.Errorf("P5.4: left at piece %d: %q, want %q", stop, got, want[:stop])
		}
	}
	var outer []string
	for _, piece := range walk {
		outer = append(outer, string(piece))
		if inner := texts(collect(walk)); !slices.Equal(inner, want) {
			t.Errorf("P5.4: a walk within a walk: %q, want %q", inner, want)
		}
	}
	if !slices.Equal(outer, want) {
		t.Errorf("P5.4: a walk around others: %q, want %q", outer, want)
	}
}

func collect(walk func(func(int, []byte) bool)) [][]byte {
	var out [][]byte
	for _, piece := range walk {
		out = append(out, piece)
	}
	return out
}

func texts(list [][]byte) []string {
	var out []string
	for _, b := range list {
		out = append(out, string(b))
	}
	return out
}

func TestPiecesAreNewMemory(t *testing.T) {
	for _, r := range rules {
		x := dice(54)
		was := string(x.bytes(9000))
		data := roomy([]byte(was))
		want := parted(data, lengths(r, data))
		walk := gear.Pieces(r, data)
		list, other := collect(walk), collect(walk)
		for i := 0; i < len(list); i += 2 {
			scribble(list[i])
		}
		for i := 1; i < len(list); i += 2 {
			if string(list[i]) != want[i] {
				t.Fatalf("P5.4, P5.9: %v: what was written over other pieces shows in piece %d", r, i)
			}
		}
		if !untouched(data, was) || !slices.Equal(texts(other), want) {
			t.Fatalf("P5.4, P5.9: %v: what was written over pieces shows in the data or in another walk's", r)
		}
		if got := collect(walk); !slices.Equal(texts(got), want) {
			t.Errorf("P5.4: %v: a walk behind the writing: %q", r, got)
		}
		i := 0
		for _, piece := range walk { // written over while the walk goes on
			if string(piece) != want[i] {
				t.Errorf("P5.4: %v: piece %d is %q, want %q", r, i, piece, want[i])
			}
			scribble(piece)
			i++
		}
	}
}

func TestPiecesDoNotKeepTheData(t *testing.T) {
	data := []byte(text)
	want := parted(data, lengths(small, data))
	walk := gear.Pieces(small, data)
	scribble(data)
	if got := texts(collect(walk)); !slices.Equal(got, want) {
		t.Errorf("P5.9: what was written over data behind the call shows in the walk: %q", got)
	}
	data = []byte(text)
	walk = gear.Pieces(small, data)
	list := collect(walk)
	scribble(data)
	if again := collect(walk); !slices.Equal(texts(list), want) || !slices.Equal(texts(again), want) {
		t.Errorf("P5.9: what was written over data between two walks shows: %q, %q", list, again)
	}
}
