package frame_test

import (
	"bytes"
	"fmt"
	"math"
	"slices"
	"testing"

	"gleaner/api"
	"gleaner/frame"
)

// lengths are those of bodies at every bound and between.
func lengths() []int {
	out := []int{511, 512, 513, 8191, 8192, 65279, 65280, 65281, 65525, 65526}
	for n := range 260 {
		out = append(out, n)
	}
	return out
}

func TestPackOfEveryLength(t *testing.T) {
	for _, n := range lengths() {
		for _, body := range contents(n) {
			got, no := frame.Pack(body)
			if want := record(n, body); no != api.OK || !bytes.Equal(got, want) {
				t.Errorf("P6.2: Pack of %d bytes: %d, % x.., want % x..", n, no, got[:min(10, len(got))], want[:10])
			}
		}
	}
	for _, c := range []struct{ body, want string }{
		{"", "c7 00 00 ff ff 01 32 e0 e2 03"},
		{"a", "c7 01 00 fe ff 01 37 59 7e 22 61"},
		{"ab", "c7 02 00 fd ff 01 6b 26 bd c6 61 62"},
	} {
		if got := fmt.Sprintf("% x", pack(t, []byte(c.body))); got != c.want {
			t.Errorf("P6.2: Pack of %q: %s, want %s", c.body, got, c.want)
		}
	}
	if !bytes.Equal(pack(t, nil), pack(t, []byte{})) {
		t.Error("P0.1: Pack of nil and of an empty list")
	}
}

func TestPackOfTooMuch(t *testing.T) {
	if api.MaxBody != 65526 {
		t.Fatalf("MaxBody is %d", api.MaxBody)
	}
	for _, n := range []int{65527, 65528, 65535, 65536, 65537, 131072, 131082} {
		if got, no := frame.Pack(make([]byte, n)); len(got) != 0 || no != api.ErrBody {
			t.Errorf("P6.2: Pack of %d bytes: %d bytes, %d", n, len(got), no)
		}
	}
}

func TestUnpackOfPlaces(t *testing.T) {
	b, all := laid("ab", "", "the third one")
	starts := map[int]string{}
	for _, r := range all {
		starts[r.at] = r.body
	}
	for _, at := range []int{-1, -2, -10, -11, -12, math.MinInt, math.MinInt + 1, len(b) + 1, len(b) + 2, len(b) + 100, math.MaxInt, math.MaxInt - 9, math.MaxInt - 10} {
		refused(t, fmt.Sprint("P6.3: at ", at), b, at, api.ErrPlace)
		refused(t, fmt.Sprint("P6.3: no bytes, at ", at), nil, at, api.ErrPlace)
	}
	for at := range len(b) + 1 {
		body, begins := starts[at]
		switch what := fmt.Sprint("P6.3: at ", at); {
		case begins:
			opened(t, what, b, at, []byte(body))
		case at > len(b)-10:
			refused(t, what, b, at, api.ErrShort)
		default:
			refused(t, what, b, at, api.ErrHead)
		}
	}
	refused(t, "P6.3: nil, at 0", nil, 0, api.ErrShort)
	refused(t, "P6.3: an empty list, at 0", []byte{}, 0, api.ErrShort)
	refused(t, "P6.3: an empty list, at 1", []byte{}, 1, api.ErrPlace)
}

func TestUnpackOfFewBytes(t *testing.T) {
	for n := range 10 {
		for _, b := range append(contents(n), record(0, nil)[:n]) {
			refused(t, fmt.Sprintf("P6.3: of % x", b), b, 0, api.ErrShort)
			refused(t, fmt.Sprintf("P6.3: of % x with a byte ahead", b), append([]byte{0xc7}, b...), 1, api.ErrShort)
		}
	}
}

func TestUnpackOfEachWrongByteOfTheHead(t *testing.T) {
	for _, body := range []string{"", "ab", string(contents(300)[0])} {
		whole := record(len(body), []byte(body))
		for i := range 10 {
			want := api.ErrHead
			if i >= 6 {
				want = api.ErrSum
			}
			for other := 1; other < 256; other++ {
				b := slices.Clone(whole)
				b[i] ^= byte(other)
				what := fmt.Sprintf("P6.3: a body of %d bytes, the byte %d of the head is %02x", len(body), i, b[i])
				refused(t, what, b, 0, want)
				if i < 6 { // a sum that is right for the wrong head is no help
					refused(t, what+", the sum is right", sealed([6]byte(b), []byte(body)), 0, want)
				}
			}
		}
	}
}

func TestUnpackOfLengthsThatMayNotBe(t *testing.T) {
	for n := 65520; n <= 65535; n++ {
		body := contents(n)[0]
		b := record(n, body)
		if what := fmt.Sprintf("P6.3: a body of %d bytes", n); n <= 65526 {
			opened(t, what, b, 0, body)
			refused(t, what+" that are not there", b[:10], 0, api.ErrShort)
		} else {
			refused(t, what, b, 0, api.ErrHead)
			refused(t, what+" that are not there", b[:10], 0, api.ErrHead)
		}
	}
}

func TestUnpackOfAnotherLength(t *testing.T) {
	body := contents(300)[0]
	whole := record(300, body)
	for n := range 400 {
		// Both tellings of the length are n, and the sum is still that of 300.
		b := slices.Clone(whole)
		copy(b, record(n, nil)[:6])
		switch what := fmt.Sprintf("P6.3: the head of %d bytes ahead of 300", n); {
		case n < 300:
			refused(t, what, b, 0, api.ErrSum)
			opened(t, what+", with its own sum", record(n, body[:n]), 0, body[:n])
		case n > 300:
			refused(t, what, b, 0, api.ErrShort)
			refused(t, what+", with its own sum", record(n, body), 0, api.ErrShort)
		}
	}
}

func TestUnpackTellsTheFirstErrorThatApplies(t *testing.T) {
	whole := record(2, []byte("ab"))
	with := func(i int) []byte {
		b := slices.Clone(whole)
		b[i] ^= 1
		return b
	}
	for _, c := range []struct {
		what string
		b    []byte
		at   int
		want api.Errno
	}{
		{"a wrong place and few bytes", whole[:3], 4, api.ErrPlace},
		{"a place below 0 and few bytes", whole[:3], -1, api.ErrPlace},
		{"a place below 0 and a wrong head", with(0), -1, api.ErrPlace},
		{"few bytes and a wrong head", with(0)[:9], 0, api.ErrShort},
		{"few bytes and a wrong length", with(1)[:9], 0, api.ErrShort},
		{"few bytes and a wrong version", with(5)[:9], 0, api.ErrShort},
		{"a wrong first byte and half a body", with(0)[:11], 0, api.ErrHead},
		{"a wrong length and half a body", with(3)[:11], 0, api.ErrHead},
		{"a wrong version and no body", with(5)[:10], 0, api.ErrHead},
		{"a wrong version and a wrong sum", with(5), 0, api.ErrHead},
		{"half a body and a wrong sum", with(6)[:11], 0, api.ErrShort},
		{"no body and a wrong sum", with(9)[:10], 0, api.ErrShort},
		{"a body that is wrong and not all there", with(10)[:11], 0, api.ErrShort},
	} {
		refused(t, "P6.3: "+c.what, c.b, c.at, c.want)
	}
}

func TestUnpackLooksAtTheRecordAlone(t *testing.T) {
	for _, n := range []int{0, 1, 2, 90, 65526} {
		body := contents(n)[0]
		whole := record(n, body)
		for _, ahead := range []int{0, 1, 9, 10, 11, 5000} {
			for _, behind := range []int{0, 1, 9, 10, 11, 5000} {
				for kind := range 3 {
					b := slices.Concat(contents(ahead)[kind], whole, contents(behind)[kind])
					opened(t, fmt.Sprintf("P6.3, P6.8: %d bytes, %d ahead, %d behind", n, ahead, behind), b, ahead, body)
				}
			}
		}
		opened(t, "P6.3: a record between spoilt ones", slices.Concat(whole[:9], whole, whole[1:]), 9, body)
	}
}

func TestBackAgain(t *testing.T) {
	var all []byte
	var bodies []told
	for _, n := range lengths() {
		for _, body := range contents(n) {
			opened(t, fmt.Sprintf("P6.6: %d bytes", n), pack(t, body), 0, body)
			bodies = append(bodies, told{len(all), string(body)})
			all = append(all, pack(t, body)...)
		}
	}
	for _, r := range bodies {
		opened(t, fmt.Sprintf("P6.6: %d bytes at %d", len(r.body), r.at), all, r.at, []byte(r.body))
	}
	if got := walked(frame.All(all)); !slices.Equal(got, bodies) {
		t.Errorf("P6.6: All of %d records tells %d, or other ones", len(bodies), len(got))
	}
	if end, no := frame.End(all); end != len(all) || no != api.OK {
		t.Errorf("P6.6: End: %d, %d, want %d, 0", end, no, len(all))
	}
}

// spoilt tells whether Unpack refuses b, alone and with bytes behind it.
func spoilt(b []byte) bool {
	for _, behind := range []string{"", "x", string(b), string(make([]byte, 300))} {
		body, size, no := frame.Unpack(append(slices.Clone(b), behind...), 0)
		if no == api.OK || len(body) != 0 || size != 0 {
			return false
		}
	}
	return true
}

func TestOneByteThatIsAnother(t *testing.T) {
	for _, n := range []int{0, 1, 2, 5, 41, 255, 256} {
		for _, body := range contents(n) {
			b := pack(t, body)
			for i := range b {
				others := []byte{1, 2, 4, 8, 16, 32, 64, 128, 255}
				if n <= 5 {
					others = nil
					for other := 1; other < 256; other++ {
						others = append(others, byte(other))
					}
				}
				for _, other := range others {
					b[i] ^= other
					if !spoilt(b) {
						t.Errorf("P6.7: %d bytes, the byte %d is %02x: Unpack takes it", n, i, b[i])
					}
					b[i] ^= other
				}
			}
		}
	}
}

func TestBytesBesideOneAnotherThatAreOthers(t *testing.T) {
	x := dice(67)
	for _, n := range []int{1, 2, 3, 4, 5, 8, 100, 1000} {
		for _, body := range contents(n) {
			b := pack(t, body)
			for range 3000 {
				wide := min(1+x.throw(4), n)
				at := 10 + x.throw(n-wide+1)
				was := slices.Clone(b[at : at+wide])
				copy(b[at:], x.bytes(wide))
				if bytes.Equal(b[at:at+wide], was) {
					continue
				}
				if _, _, no := frame.Unpack(append(b, 1, 2, 3), 0); no != api.ErrSum {
					t.Fatalf("P6.7: %d bytes, % x for % x at %d: %d", n, b[at:at+wide], was, at, no)
				}
				copy(b[at:], was)
			}
		}
	}
	// Two bytes, all that they can be.
	b := pack(t, []byte("gleaner"))
	for at := 10; at+2 <= len(b); at++ {
		for other := 1; other < 1<<16; other++ {
			b[at] ^= byte(other)
			b[at+1] ^= byte(other >> 8)
			if _, _, no := frame.Unpack(b, 0); no != api.ErrSum {
				t.Fatalf("P6.7: two bytes at %d turned by %04x: %d", at, other, no)
			}
			b[at] ^= byte(other)
			b[at+1] ^= byte(other >> 8)
		}
	}
}

func TestRecordsThatAreCutShort(t *testing.T) {
	for _, n := range []int{0, 1, 2, 10, 300, 65526} {
		for _, body := range contents(n) {
			b := pack(t, body)
			for cut := 0; cut < len(b); cut += 1 + cut/200 {
				refused(t, fmt.Sprintf("P6.8: %d bytes, cut at %d", n, cut), b[:cut], 0, api.ErrShort)
			}
			refused(t, fmt.Sprintf("P6.8: %d bytes without the last one", n), b[:len(b)-1], 0, api.ErrShort)
			for _, behind := range []string{"x", "\xc7", string(b), string(b[:9])} {
				opened(t, fmt.Sprintf("P6.8: %d bytes with %d behind", n, len(behind)), append(slices.Clone(b), behind...), 0, body)
			}
		}
	}
}

func TestPackAndUnpackAnswerNewMemory(t *testing.T) {
	for _, n := range []int{0, 1, 2, 30, 500, 65526} {
		was := contents(n)[0]
		want := record(n, was)
		body := roomy(was)
		one, two := pack(t, body), pack(t, body)
		if !untouched(body, was) {
			t.Fatalf("P0.1: Pack of %d bytes changed them, or the room behind them", n)
		}
		scribble(one)
		if !untouched(body, was) || !bytes.Equal(two, want) {
			t.Errorf("P0.1: what is written over a record of %d bytes shows elsewhere", n)
		}
		scribble(body)
		if !bytes.Equal(two, want) {
			t.Errorf("P0.1: what is written over a body of %d bytes shows in its record", n)
		}

		b := roomy(want)
		first, _, _ := frame.Unpack(b, 0)
		second, _, _ := frame.Unpack(b, 0)
		scribble(first)
		if !untouched(b, want) || !bytes.Equal(second, was) {
			t.Errorf("P0.1: what is written over a body of %d bytes shows elsewhere", n)
		}
		scribble(b)
		if !bytes.Equal(second, was) {
			t.Errorf("P0.1: what is written over a record of %d bytes shows in its body", n)
		}
	}
}

func TestUnpackChangesNothing(t *testing.T) {
	good := record(3, []byte("abc"))
	bad := slices.Clone(good)
	bad[6]++
	for _, was := range [][]byte{nil, good, good[:5], good[:12], bad, append(slices.Clone(good), bad...)} {
		for _, at := range []int{-1, 0, 1, 5, 13, 100} {
			b := roomy(was)
			frame.Unpack(b, at)
			if !untouched(b, was) {
				t.Errorf("P0.1: Unpack of % x at %d changed it", was, at)
			}
		}
	}
}
