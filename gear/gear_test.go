package gear_test

import (
	"math"
	"slices"
	"testing"

	"gleaner/api"
	"gleaner/gear"
)

func TestWordOfEveryByte(t *testing.T) {
	for b, want := range []uint64{0xe220a8397b1dcdaf, 0x6e789e6aa1b965f4, 0x06c45d188009454f} {
		if got := gear.Word(byte(b)); got != want {
			t.Errorf("P5.1: Word(%d) = %x, want %x", b, got, want)
		}
	}
	for b := range 256 {
		if got := gear.Word(byte(b)); got != word(byte(b)) {
			t.Errorf("P5.1: Word(%d) = %x, want %x", b, got, word(byte(b)))
		}
	}
}

func TestCheckAtEachBound(t *testing.T) {
	for _, c := range []struct {
		rule api.Cut
		want api.Errno
	}{
		{api.Cut{Min: 0, Mean: 4, Max: 8}, api.ErrRule}, {api.Cut{Min: 1, Mean: 4, Max: 8}, api.OK},
		{api.Cut{Min: 1, Mean: 2, Max: 8}, api.ErrRule}, {api.Cut{Min: 1, Mean: 4, Max: 4}, api.OK},
		{api.Cut{Min: 1, Mean: 3, Max: 8}, api.ErrRule}, {api.Cut{Min: 1, Mean: 5, Max: 8}, api.ErrRule}, {api.Cut{Min: 1, Mean: 6, Max: 8}, api.ErrRule},
		{api.Cut{Min: 1, Mean: 4096, Max: 8000}, api.OK}, {api.Cut{Min: 1, Mean: 8192, Max: 8192}, api.ErrRule}, {api.Cut{Min: 1, Mean: 8192, Max: 8000}, api.ErrRule},
		{api.Cut{Min: 4, Mean: 4, Max: 8}, api.OK}, {api.Cut{Min: 5, Mean: 4, Max: 8}, api.ErrRule},
		{api.Cut{Min: 4096, Mean: 4096, Max: 4096}, api.OK}, {api.Cut{Min: 4097, Mean: 4096, Max: 8000}, api.ErrRule},
		{api.Cut{Min: 1, Mean: 8, Max: 8}, api.OK}, {api.Cut{Min: 1, Mean: 8, Max: 7}, api.ErrRule},
		{api.Cut{Min: 1, Mean: 4, Max: 8000}, api.OK}, {api.Cut{Min: 1, Mean: 4, Max: 8001}, api.ErrRule}, {api.Cut{Min: 1, Mean: 4096, Max: 8001}, api.ErrRule},
		{api.Cut{}, api.ErrRule}, {api.Cut{Min: 1, Mean: 1, Max: 1}, api.ErrRule}, {api.Cut{Min: 1, Mean: 0, Max: 8}, api.ErrRule},
		{api.Cut{Min: -1, Mean: 4, Max: 8}, api.ErrRule}, {api.Cut{Min: 1, Mean: -4, Max: 8}, api.ErrRule}, {api.Cut{Min: 1, Mean: 4, Max: -8}, api.ErrRule},
		{api.Cut{Min: math.MinInt, Mean: 4, Max: 8}, api.ErrRule}, {api.Cut{Min: math.MaxInt, Mean: 4, Max: 8}, api.ErrRule},
		{api.Cut{Min: 1, Mean: math.MinInt, Max: 8}, api.ErrRule}, {api.Cut{Min: 1, Mean: math.MaxInt, Max: math.MaxInt}, api.ErrRule},
		{api.Cut{Min: 1, Mean: 4, Max: math.MinInt}, api.ErrRule}, {api.Cut{Min: 1, Mean: 4, Max: math.MaxInt}, api.ErrRule},
		{api.Cut{Min: math.MinInt, Mean: math.MinInt, Max: math.MinInt}, api.ErrRule}, {api.Cut{Min: 1, Mean: 1 << 62, Max: 1 << 62}, api.ErrRule},
	} {
		if got := gear.Check(c.rule); got != c.want {
			t.Errorf("P5.1: Check(%v) = %d, want %d", c.rule, got, c.want)
		}
	}
}

func TestCheckTakesPowersOfTwoAlone(t *testing.T) {
	good := []int{4, 8, 16, 32, 64, 128, 256, 512, 1024, 2048, 4096}
	for mean := -10; mean < 8300; mean++ {
		want := api.ErrRule
		if slices.Contains(good, mean) {
			want = api.OK
		}
		if got := gear.Check(api.Cut{Min: 1, Mean: mean, Max: 8000}); got != want {
			t.Errorf("P5.1: Check of Mean %d: %d, want %d", mean, got, want)
		}
	}
}

func TestFirstOfTheExamples(t *testing.T) {
	for _, c := range []struct {
		rule  api.Cut
		data  string
		n     int
		found bool
	}{
		{small, "w", 1, false}, {small, "", 0, false}, {small, text, 4, true}, {api.Cut{}, text, 0, false},
		{small, text[:3], 3, false}, {small, text[:4], 4, true}, {small, text[:5], 4, true},
	} {
		if n, found := gear.First(c.rule, []byte(c.data)); n != c.n || found != c.found {
			t.Errorf("P5.2: First(%v, %q) = %d, %v; want %d, %v", c.rule, c.data, n, found, c.n, c.found)
		}
	}
}

func TestFirstEndsWhereThePieceDoes(t *testing.T) {
	seen := map[why]int{}
	for _, r := range rules {
		for name, data := range contents(20000) {
			for range 20 {
				n, way := ends(r, data)
				if way == never {
					break
				}
				seen[way]++
				for _, c := range []struct {
					long, n int
					found   bool
				}{{len(data), n, true}, {n + 1, n, true}, {n, n, true}, {n - 1, n - 1, false}, {n / 2, n / 2, false}, {0, 0, false}} {
					if got, found := gear.First(r, data[:min(c.long, len(data))]); got != c.n || found != c.found {
						t.Fatalf("P5.2: %v, %s, a piece of %d: First of %d bytes = %d, %v; want %d, %v", r, name, n, c.long, got, found, c.n, c.found)
					}
				}
				data = data[n:]
			}
		}
	}
	for _, way := range []why{early, late, atMax} {
		if seen[way] < 50 {
			t.Errorf("the test's own contents have but %d pieces that end by way %d", seen[way], way)
		}
	}
}

// The edges are the lengths at which what ends a piece changes: each must come up, ended by the way that it has.
func TestFirstAtTheEdgesOfARule(t *testing.T) {
	x := dice(52)
	for _, r := range []api.Cut{{Min: 2, Mean: 4, Max: 8}, {Min: 3, Mean: 8, Max: 10}, {Min: 7, Mean: 8, Max: 9}, {Min: 1, Mean: 4, Max: 5}} {
		type edge struct {
			n   int
			way why
		}
		seen := map[edge]bool{}
		for range 3000 {
			data := x.bytes(r.Max)
			n, way := ends(r, data)
			seen[edge{n, way}] = true
			if got, found := gear.First(r, data); got != n || !found {
				t.Fatalf("P5.2: First(%v, %x) = %d, %v; want %d, true", r, data, got, found, n)
			}
		}
		for _, e := range []edge{{r.Min, early}, {r.Mean - 1, early}, {r.Mean, late}, {r.Max - 1, late}, {r.Max, atMax}} {
			if !seen[e] {
				t.Errorf("the test's own bytes have no piece of %d that ends by way %d, of %v", e.n, e.way, r)
			}
		}
	}
}

func TestFirstOfNoRuleAndOfNoData(t *testing.T) {
	for _, r := range wrong {
		if n, found := gear.First(r, []byte(text)); n != 0 || found {
			t.Errorf("P5.2: First of %v, which may not be: %d, %v", r, n, found)
		}
	}
	for _, r := range rules {
		for _, none := range [][]byte{nil, {}} {
			if n, found := gear.First(r, none); n != 0 || found {
				t.Errorf("P5.2: First(%v, no bytes) = %d, %v", r, n, found)
			}
		}
	}
}

func TestCutOfTheExamples(t *testing.T) {
	tail := []int{2, 3, 2, 4, 4, 8, 5, 6, 2, 3, 5}
	for _, c := range []struct {
		rule api.Cut
		data string
		want []int
	}{
		{small, text, append([]int{4, 8, 4, 4}, tail...)},
		{small, "x" + text, append([]int{7, 2, 4, 4, 4}, tail...)},
		{api.Cut{Min: 4, Mean: 4, Max: 4}, text, slices.Repeat([]int{4}, 16)},
		{small, text[:3], []int{3}}, {small, text[:4], []int{4}}, {small, text[:5], []int{4, 1}}, {small, text[:12], []int{4, 8}},
		{small, "", nil},
	} {
		if got, no := gear.Cut(c.rule, []byte(c.data)); no != api.OK || !slices.Equal(got, c.want) {
			t.Errorf("P5.3: Cut(%v, %q) = %v, %d; want %v", c.rule, c.data, got, no, c.want)
		}
	}
}

func TestCutIsPieceByPiece(t *testing.T) {
	for _, r := range rules {
		for name, data := range contents(20000) {
			want := lengths(r, data)
			if got, no := gear.Cut(r, data); no != api.OK || !slices.Equal(got, want) {
				t.Errorf("P5.3: Cut(%v, %s) = %v, %d; want %v", r, name, got, no, want)
			}
			first := want[0]
			for _, n := range []int{1, first - 1, first, min(first+1, len(data)), min(len(data), first+want[min(1, len(want)-1)])} {
				part := data[:n]
				if got, no := gear.Cut(r, part); no != api.OK || !slices.Equal(got, lengths(r, part)) {
					t.Errorf("P5.3: Cut(%v, %d bytes of %s) = %v, %d; want %v", r, n, name, got, no, lengths(r, part))
				}
			}
		}
	}
}

func TestCutOfNoRuleAndOfNoData(t *testing.T) {
	for _, r := range wrong {
		for _, data := range [][]byte{nil, []byte(text)} {
			if got, no := gear.Cut(r, data); no != api.ErrRule || len(got) != 0 {
				t.Errorf("P5.3: Cut of %v, which may not be: %v, %d", r, got, no)
			}
		}
	}
	for _, r := range rules {
		for _, none := range [][]byte{nil, {}} {
			if got, no := gear.Cut(r, none); no != api.OK || len(got) != 0 {
				t.Errorf("P5.3: Cut(%v, no bytes) = %v, %d", r, got, no)
			}
		}
	}
}

func TestCutsLengthsAreWithinTheRule(t *testing.T) {
	for _, r := range rules {
		for name, data := range contents(17777) {
			got, _ := gear.Cut(r, data)
			sum := 0
			for i, n := range got {
				sum += n
				if n < 1 || n > r.Max || n < r.Min && i < len(got)-1 {
					t.Errorf("P5.7: %v, %s: piece %d of %d is %d long", r, name, i, len(got), n)
				}
			}
			if sum != len(data) {
				t.Errorf("P5.7: %v, %s: the lengths add up to %d, not to %d", r, name, sum, len(data))
			}
		}
	}
}

// behind is the places of data's cuts; found: those alone of which the piece's end was found.
func behind(t *testing.T, r api.Cut, data []byte, found bool) []int {
	t.Helper()
	all, no := gear.Cut(r, data)
	if no != api.OK {
		t.Fatalf("Cut(%v, %d bytes): %d", r, len(data), no)
	}
	var out []int
	at := 0
	for _, n := range all {
		if _, ok := gear.First(r, data[at:]); ok || !found {
			out = append(out, at+n)
		}
		at += n
	}
	return out
}

func TestCutsComeBackBehindAChange(t *testing.T) {
	x := dice(58)
	for _, r := range rules {
		met := 0
		for range 6 {
			tail := x.bytes(20 * r.Mean)
			a := append(x.bytes(x.throw(3*r.Max)), tail...)
			b := append(x.bytes(x.throw(3*r.Max)), tail...)
			ps, qs := behind(t, r, a, false), behind(t, r, b, false)
			for _, p := range ps[:len(ps)-1] {
				q := p + len(b) - len(a)
				if len(a)-p > len(tail) || !slices.Contains(qs, q) {
					continue
				}
				met++
				la, _ := gear.Cut(r, a[p:])
				i, j := slices.Index(ps, p)+1, slices.Index(qs, q)+1
				if steps := diffs(qs[j:], q); !slices.Equal(diffs(ps[i:], p), steps) || !slices.Equal(la, steps) {
					t.Fatalf("P5.8: %v: behind %d and %d the same bytes are cut unlike: %v, %v, %v", r, p, q, diffs(ps[i:], p), steps, la)
				}
			}
		}
		if met == 0 && r.Mean < 64 && r.Min < r.Max {
			t.Errorf("P5.8: %v: no cut came back", r)
		}
	}
}

// diffs is the lengths between places, the first one from at on.
func diffs(places []int, at int) []int {
	var out []int
	for _, p := range places {
		out = append(out, p-at)
		at = p
	}
	return out
}

func TestCutsOfOneBeginning(t *testing.T) {
	x := dice(59)
	for _, r := range rules {
		met := 0
		for range 12 {
			head := x.bytes(x.throw(12 * r.Mean))
			a := append(slices.Clone(head), x.bytes(x.throw(2*r.Max))...)
			b := append(slices.Clone(head), x.bytes(x.throw(2*r.Max))...)
			upTo := func(cuts []int) []int {
				return slices.DeleteFunc(cuts, func(at int) bool { return at > len(head) })
			}
			ca, cb, ch := upTo(behind(t, r, a, true)), upTo(behind(t, r, b, true)), behind(t, r, head, true)
			met += len(ca)
			if !slices.Equal(ca, cb) || !slices.Equal(ca, ch) {
				t.Fatalf("P5.8: %v: %d bytes alike, cuts %v, %v and %v", r, len(head), ca, cb, ch)
			}
		}
		if met == 0 {
			t.Errorf("the test's own bytes have no cut in what is alike, of %v", r)
		}
	}
}

func TestWhatIsHandedInStays(t *testing.T) {
	for _, r := range append(slices.Clone(rules), wrong...) {
		x := dice(60)
		was := string(x.bytes(9000))
		data := roomy([]byte(was))
		gear.First(r, data)
		list, _ := gear.Cut(r, data)
		again, _ := gear.Cut(r, data)
		for range gear.Pieces(r, data) {
		}
		if !untouched(data, was) {
			t.Errorf("P5.9: %v: the data handed in was changed", r)
		}
		want := slices.Clone(again)
		for i := range list[:cap(list)] {
			list[:cap(list)][i] = -7
		}
		if third, _ := gear.Cut(r, data); !slices.Equal(again, want) || !slices.Equal(third, want) {
			t.Errorf("P5.9: %v: writing over one list of lengths changed another", r)
		}
		scribble(data)
		if !slices.Equal(again, want) {
			t.Errorf("P5.9: %v: writing over data changed the lengths", r)
		}
	}
}
