package gear_test

import (
	"slices"
	"strings"
	"testing"

	"gleaner/api"
	"gleaner/gear"
)

func newCutter(t *testing.T, r api.Cut) *gear.Cutter {
	t.Helper()
	c, no := gear.NewCutter(r)
	if c == nil || no != api.OK {
		t.Fatalf("P5.5: NewCutter(%v) = %v, %d", r, c, no)
	}
	if c.Held() != 0 {
		t.Errorf("P5.5: a new Cutter holds %d bytes", c.Held())
	}
	return c
}

func write(t *testing.T, c *gear.Cutter, b []byte) []string {
	t.Helper()
	list, no := c.Write(b)
	if no != api.OK {
		t.Fatalf("P5.5: Write of %d bytes: %d", len(b), no)
	}
	return texts(list)
}

func end(t *testing.T, c *gear.Cutter) string {
	t.Helper()
	b, no := c.End()
	if no != api.OK {
		t.Fatalf("P5.5: End: %d", no)
	}
	return string(b)
}

func TestCutterOfTheExample(t *testing.T) {
	c := newCutter(t, small)
	if got := write(t, c, []byte("wha")); len(got) != 0 || c.Held() != 3 {
		t.Errorf("P5.5: Write(wha) = %q, held %d", got, c.Held())
	}
	if got := write(t, c, []byte("t is")); !slices.Equal(got, []string{"what"}) || c.Held() != 3 {
		t.Errorf("P5.5: Write(t is) = %q, held %d", got, c.Held())
	}
	if got := end(t, c); got != " is" || c.Held() != 0 {
		t.Errorf("P5.5: End = %q, held %d", got, c.Held())
	}
	closed(t, c)
}

// closed tells what is wrong with a Cutter that has ended.
func closed(t *testing.T, c *gear.Cutter) {
	t.Helper()
	for _, b := range [][]byte{nil, {}, []byte("x"), []byte(text)} {
		if list, no := c.Write(b); len(list) != 0 || no != api.ErrState || c.Held() != 0 {
			t.Errorf("P5.5: Write(%q) behind End: %q, %d, held %d", b, list, no, c.Held())
		}
	}
	if b, no := c.End(); len(b) != 0 || no != api.ErrState || c.Held() != 0 {
		t.Errorf("P5.5: End behind End: %q, %d, held %d", b, no, c.Held())
	}
}

func TestNewCutterOfNoRule(t *testing.T) {
	for _, r := range wrong {
		if c, no := gear.NewCutter(r); c != nil || no != api.ErrRule {
			t.Errorf("P5.5: NewCutter of %v, which may not be: %v, %d", r, c, no)
		}
	}
}

func TestCutterThatIsNotThere(t *testing.T) {
	for name, c := range map[string]*gear.Cutter{"nil": nil, "zero": new(gear.Cutter)} {
		for range 2 {
			for _, b := range [][]byte{nil, []byte(text)} {
				if list, no := c.Write(b); len(list) != 0 || no != api.ErrNil {
					t.Errorf("P5.5: %s: Write(%q) = %q, %d", name, b, list, no)
				}
			}
			if b, no := c.End(); len(b) != 0 || no != api.ErrNil {
				t.Errorf("P5.5: %s: End = %q, %d", name, b, no)
			}
			if c.Held() != 0 {
				t.Errorf("P5.5: %s: held %d", name, c.Held())
			}
		}
	}
}

func TestEndWithoutBytesHeld(t *testing.T) {
	fresh := newCutter(t, small)
	if got := end(t, fresh); got != "" {
		t.Errorf("P5.5: End of a new Cutter: %q", got)
	}
	closed(t, fresh)
	whole := newCutter(t, small)
	if got := write(t, whole, []byte("what")); !slices.Equal(got, []string{"what"}) || whole.Held() != 0 {
		t.Errorf("P5.5: Write(what) = %q, held %d", got, whole.Held())
	}
	if got := end(t, whole); got != "" {
		t.Errorf("P5.5: End behind a whole piece: %q", got)
	}
	closed(t, whole)
}

func TestWriteOfNoBytes(t *testing.T) {
	c := newCutter(t, small)
	for _, part := range []string{"", "wh", "", "a", "", "t", ""} {
		held := c.Held() + len(part)
		want := []string(nil)
		if held == 4 {
			held, want = 0, []string{"what"}
		}
		if got := write(t, c, []byte(part)); !slices.Equal(got, want) || c.Held() != held {
			t.Errorf("P5.5: Write(%q) = %q, held %d; want %q, %d", part, got, c.Held(), want, held)
		}
		if got := write(t, c, nil); len(got) != 0 || c.Held() != held {
			t.Errorf("P5.5: Write(nil) = %q, held %d, want %d", got, c.Held(), held)
		}
	}
}

// parts are ways of parting n bytes into Writes: how long each is, none behind the last.
func parts(n int) map[string]func() int {
	x := dice(n)
	fixed := func(k int) func() int { return func() int { return k } }
	return map[string]func() int{
		"one byte each": fixed(1), "three each": fixed(3), "all at once": fixed(n), "97 each": fixed(97), "4096 each": fixed(4096),
		"short ones": func() int { return x.throw(6) }, "long ones": func() int { return x.throw(3000) },
	}
}

func TestCutterHoweverDataIsParted(t *testing.T) {
	for _, r := range rules {
		for name, data := range contents(12000) {
			want := walked(t, r, data)
			for way, next := range parts(len(data)) {
				if got := fed(t, r, data, next); !slices.Equal(got, want) {
					t.Errorf("P5.5, P5.7: %v, %s, %s: other pieces than Pieces goes through", r, name, way)
				}
			}
		}
	}
}

// fed is what a Cutter tells of data that comes in parts; each piece must be told with its last byte, and Held be right all the while.
func fed(t *testing.T, r api.Cut, data []byte, next func() int) []string {
	t.Helper()
	c, cuts := newCutter(t, r), behind(t, r, data, true)
	var got []string
	for taken, whole := 0, 0; taken < len(data); {
		n := min(next(), len(data)-taken)
		list := write(t, c, data[taken:taken+n])
		taken += n
		got = append(got, list...)
		for len(cuts) > 0 && cuts[0] <= taken {
			whole, cuts = cuts[0], cuts[1:]
		}
		if told := len(strings.Join(list, "")); c.Held() != taken-whole || (told > 0) != (taken-n < whole) {
			t.Fatalf("P5.5: %v: of %d bytes %d are whole: %d told with the last %d, %d held", r, taken, whole, told, n, c.Held())
		}
	}
	if last := end(t, c); last != "" {
		got = append(got, last)
	}
	closed(t, c)
	return got
}

func TestTwoCuttersInTurns(t *testing.T) {
	rules := []api.Cut{small, small, {Min: 1, Mean: 8, Max: 30}}
	x := dice(55)
	var datas [3][]byte
	var got [3][]string
	var cutters [3]*gear.Cutter
	for i := range datas {
		datas[i] = x.bytes(2000)
		cutters[i] = newCutter(t, rules[i])
	}
	for at := 0; at < 2000; at += 5 {
		for i, c := range cutters {
			got[i] = append(got[i], write(t, c, datas[i][at:at+5])...)
		}
	}
	for i, c := range cutters {
		if last := end(t, c); last != "" {
			got[i] = append(got[i], last)
		}
		if want := walked(t, rules[i], datas[i]); !slices.Equal(got[i], want) {
			t.Errorf("P5.5: Cutter %d, beside two others: other pieces than Pieces goes through", i)
		}
	}
}

func TestCutterTellsNewMemoryAndKeepsNone(t *testing.T) {
	for _, r := range rules {
		x := dice(56)
		data := x.bytes(18000)
		want := walked(t, r, data)
		c := newCutter(t, r)
		var lists [][]byte
		for at := 0; at < len(data); {
			n := min(1+x.throw(70), len(data)-at)
			was := string(data[at : at+n])
			part := roomy(data[at : at+n])
			list, no := c.Write(part)
			if no != api.OK || !untouched(part, was) {
				t.Fatalf("P5.9: %v: Write changed what was handed in (%d)", r, no)
			}
			scribble(part)
			lists = append(lists, list...)
			at += n
			for i := range list[:cap(list)] {
				list[:cap(list)][i] = []byte("over")
			}
		}
		last, _ := c.End()
		lists = append(lists, last)
		if got := strings.Join(texts(lists), ""); got != string(data) {
			t.Fatalf("P5.7, P5.9: %v: the pieces one behind the other are not the data", r)
		}
		for i := 0; i < len(lists); i += 2 {
			scribble(lists[i])
		}
		for i := 1; i < len(want); i += 2 {
			if string(lists[i]) != want[i] {
				t.Fatalf("P5.9: %v: what was written over other pieces shows in piece %d", r, i)
			}
		}
	}
}

// What is told must not share room with what is still held, or comes.
func TestCutterIsNotReachedThroughItsPieces(t *testing.T) {
	for _, r := range rules {
		data := contents(18000)["chance"]
		want := walked(t, r, data)
		c := newCutter(t, r)
		var got []string
		for at := 0; at < len(data); at += 10 {
			list, _ := c.Write(data[at : at+10])
			got = append(got, texts(list)...)
			for _, piece := range list {
				scribble(piece)
			}
		}
		if last := end(t, c); last != "" {
			got = append(got, last)
		}
		if !slices.Equal(got, want) {
			t.Errorf("P5.9: %v: what was written over pieces shows in later ones", r)
		}
	}
}
