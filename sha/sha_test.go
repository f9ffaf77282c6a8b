package sha_test

import (
	"bytes"
	"crypto/sha256"
	"encoding/binary"
	"encoding/hex"
	"math"
	"math/big"
	"slices"
	"testing"

	"gleaner/api"
	"gleaner/sha"
)

// dice are numbers that look thrown, the same in every run.
type dice uint64

func (x *dice) throw(n int) int {
	*x = *x*6364136223846793005 + 1442695040888963407
	return int(uint64(*x) >> 33 % uint64(n))
}

func (x *dice) bytes(n int) []byte {
	b := make([]byte, n)
	for i := range b {
		b[i] = byte(x.throw(256))
	}
	return b
}

func (x *dice) state() [8]uint32 {
	var s [8]uint32
	for i := range s {
		s[i] = uint32(x.throw(1<<16))<<16 | uint32(x.throw(1<<16))
	}
	return s
}

func wantKey(t *testing.T, what string, got, want api.Key) {
	t.Helper()
	if got != want {
		t.Errorf("%s: %x, want %x", what, got, want)
	}
}

func wantWords(t *testing.T, what string, got, want [8]uint32) {
	t.Helper()
	if got != want {
		t.Errorf("%s: %08x, want %08x", what, got, want)
	}
}

func keyOf(t *testing.T, text string) api.Key {
	t.Helper()
	b, err := hex.DecodeString(text)
	if err != nil || len(b) != 32 {
		t.Fatalf("no key: %s", text)
	}
	return api.Key(b)
}

// wordsOf is a key as a state.
func wordsOf(k api.Key) [8]uint32 {
	var s [8]uint32
	for i := range s {
		s[i] = binary.BigEndian.Uint32(k[4*i:])
	}
	return s
}

// rootBits is the first 32 bits behind the point of a prime's square or cube root.
func rootBits(prime, power int64) uint32 {
	// The greatest x with x^power at most prime * 2^(32*power) is the root with 32 bits behind its point.
	most := new(big.Int).Lsh(big.NewInt(prime), uint(32*power))
	x := new(big.Int)
	for bit := 40; bit >= 0; bit-- {
		try := new(big.Int).SetBit(x, bit, 1)
		if new(big.Int).Exp(try, big.NewInt(power), nil).Cmp(most) <= 0 {
			x = try
		}
	}
	return uint32(x.Uint64())
}

func primes(n int) []int64 {
	var out []int64
	for p := int64(2); len(out) < n; p++ {
		if big.NewInt(p).ProbablyPrime(0) {
			out = append(out, p)
		}
	}
	return out
}

const modulus = 1 << 32

func turned(x uint64, n int) uint64 { return (x>>n | x<<(32-n)) % modulus }

// slowBlock is P2.2 by its words, in numbers that do not wrap by themselves.
func slowBlock(k []uint64, state [8]uint32, block [64]byte) [8]uint32 {
	var w [64]uint64
	for t := range w {
		if t < 16 {
			w[t] = uint64(binary.BigEndian.Uint32(block[4*t:]))
			continue
		}
		x, y := w[t-15], w[t-2]
		s0 := turned(x, 7) ^ turned(x, 18) ^ x>>3
		s1 := turned(y, 17) ^ turned(y, 19) ^ y>>10
		w[t] = (s1 + w[t-7] + s0 + w[t-16]) % modulus
	}
	var v [8]uint64
	for i := range v {
		v[i] = uint64(state[i])
	}
	for t := range w {
		a, b, c, e, f, g := v[0], v[1], v[2], v[4], v[5], v[6]
		big0 := turned(a, 2) ^ turned(a, 13) ^ turned(a, 22)
		big1 := turned(e, 6) ^ turned(e, 11) ^ turned(e, 25)
		notE := modulus - 1 - e
		x := v[7] + big1 + ((e & f) ^ (notE & g)) + k[t] + w[t]
		y := big0 + ((a & b) ^ (a & c) ^ (b & c))
		v = [8]uint64{(x + y) % modulus, a, b, c, (v[3] + x) % modulus, e, f, g}
	}
	for i := range v {
		state[i] = uint32((uint64(state[i]) + v[i]) % modulus)
	}
	return state
}

func slowRounds() []uint64 {
	var k []uint64
	for _, p := range primes(64) {
		k = append(k, uint64(rootBits(p, 3)))
	}
	return k
}

// P2.1.
func TestStartIsTheSquareRootsOfPrimes(t *testing.T) {
	want := [8]uint32{0x6a09e667, 0xbb67ae85, 0x3c6ef372, 0xa54ff53a, 0x510e527f, 0x9b05688c, 0x1f83d9ab, 0x5be0cd19}
	for range 2 {
		got := sha.Start()
		wantWords(t, "P2.1: Start", got, want)
		got[0], got[7] = 0, 0 // what a caller does with it is not to be seen in the next one
	}
	for i, p := range primes(8) {
		if got := sha.Start()[i]; got != rootBits(p, 2) {
			t.Errorf("P2.1: word %d is %08x, and the root of %d says %08x", i, got, p, rootBits(p, 2))
		}
	}
}

func filled(b byte) [64]byte { return [64]byte(bytes.Repeat([]byte{b}, 64)) }

func rising() [64]byte {
	var b [64]byte
	for i := range b {
		b[i] = byte(i)
	}
	return b
}

// P2.2: states and blocks whose answers are written down.
func TestBlockOfKnownStates(t *testing.T) {
	const top = math.MaxUint32
	ones := [8]uint32{top, top, top, top, top, top, top, top}
	for _, c := range []struct {
		what  string
		state [8]uint32
		block [64]byte
		want  [8]uint32
	}{
		{"Start, no bytes", sha.Start(), [64]byte{128},
			[8]uint32{0xe3b0c442, 0x98fc1c14, 0x9afbf4c8, 0x996fb924, 0x27ae41e4, 0x649b934c, 0xa495991b, 0x7852b855}},
		{"Start, full bytes", sha.Start(), filled(255),
			[8]uint32{0xef0c748d, 0xf4da50a8, 0xd6c43c01, 0x3edc3ce7, 0x6c9d9fa9, 0xa1458ade, 0x56eb86c0, 0xa64492d2}},
		{"Start, rising bytes", sha.Start(), rising(),
			[8]uint32{0xfc99a2df, 0x88f42a7a, 0x7bb9d180, 0x33cdc6a2, 0x0256755f, 0x9d5b9a50, 0x44a9cc31, 0x5abe84a7}},
		{"zeros, zeros", [8]uint32{}, [64]byte{},
			[8]uint32{0x7ca51614, 0x425c3ba8, 0xce54dd2f, 0xc2020ae7, 0xb6e574d1, 0x98136d0f, 0xae7e26cc, 0xbf0be7a6}},
		{"greatest words, full bytes", ones, filled(255),
			[8]uint32{0x0598127a, 0xaf11706e, 0x77401fff, 0xd730c549, 0x0b84c867, 0xa98c6ca3, 0xd7f3c0f9, 0x06a78b79}},
		{"greatest words, zeros", ones, [64]byte{},
			[8]uint32{0x25260809, 0x56c94ba8, 0xe7d6dd48, 0x222df1d3, 0xf914c4b0, 0xb823beb6, 0xe8cebb7a, 0xddcdff59}},
		{"1 to 8, rising bytes", [8]uint32{1, 2, 3, 4, 5, 6, 7, 8}, rising(),
			[8]uint32{0xd983df8e, 0x621f4578, 0x1f917871, 0x0bdcc9b3, 0x3044782b, 0xa13edb77, 0xfba54b2c, 0xd168eed7}},
	} {
		state, block := c.state, c.block
		for range 2 {
			wantWords(t, "P2.2: Block of "+c.what, sha.Block(state, block), c.want)
			if state != c.state || block != c.block {
				t.Errorf("P2.2: Block of %s changed what was handed in", c.what)
			}
		}
	}
}

// P2.2: its words, with the roots reckoned anew.
func TestBlockIsWhatItsWordsSay(t *testing.T) {
	k := slowRounds()
	x := dice(1)
	for range 300 {
		state, block := x.state(), [64]byte(x.bytes(64))
		wantWords(t, "P2.2: Block", sha.Block(state, block), slowBlock(k, state, block))
	}
	// Each bit of the state and of the block has its share in the answer.
	for bit := range 256 {
		state, block := sha.Start(), rising()
		state[bit/32] ^= 1 << (bit % 32)
		wantWords(t, "P2.2: Block, a bit of the state turned", sha.Block(state, block), slowBlock(k, state, block))
	}
	for bit := range 512 {
		state, block := sha.Start(), rising()
		block[bit/8] ^= 1 << (bit % 8)
		wantWords(t, "P2.2: Block, a bit of the block turned", sha.Block(state, block), slowBlock(k, state, block))
	}
}

// slowTail is P2.3 by its words.
func slowTail(n uint64) []byte {
	tail := []byte{128}
	for (n%64+uint64(len(tail))+8)%64 != 0 {
		tail = append(tail, 0)
	}
	bits := new(big.Int).Mul(new(big.Int).SetUint64(n), big.NewInt(8))
	bits.Mod(bits, new(big.Int).Lsh(big.NewInt(1), 64))
	return append(tail, bits.FillBytes(make([]byte, 8))...)
}

// P2.3.
func TestTail(t *testing.T) {
	var some []uint64
	for n := range uint64(200) {
		some = append(some, n, 1<<32-100+n, 1<<61-100+n, 1<<63-100+n, math.MaxUint64-n)
	}
	for _, n := range append(some, 0x0123456789abcdef, 0xfedcba9876543210) {
		if got := sha.Tail(n); !bytes.Equal(got, slowTail(n)) {
			t.Errorf("P2.3: Tail(%d) % x, want % x", n, got, slowTail(n))
		}
	}
}

// P2.3: the edges, written down.
func TestTailAtItsEdges(t *testing.T) {
	for _, c := range []struct {
		n    uint64
		long int
		last []byte // behind 128 and zeros
	}{
		{0, 64, nil},
		{1, 63, []byte{8}},
		{54, 10, []byte{1, 176}},
		{55, 9, []byte{1, 184}},
		{56, 72, []byte{1, 192}},
		{57, 71, []byte{1, 200}},
		{63, 65, []byte{1, 248}},
		{64, 64, []byte{2, 0}},
		{119, 9, []byte{3, 184}},
		{120, 72, []byte{3, 192}},
		{1<<61 - 1, 65, []byte{255, 255, 255, 255, 255, 255, 255, 248}},
		{1 << 61, 64, nil},
		{1<<61 + 1, 63, []byte{8}},
		{1 << 63, 64, nil},
		{math.MaxUint64, 65, []byte{255, 255, 255, 255, 255, 255, 255, 248}},
	} {
		want := make([]byte, c.long)
		want[0] = 128
		copy(want[c.long-len(c.last):], c.last)
		if got := sha.Tail(c.n); !bytes.Equal(got, want) {
			t.Errorf("P2.3: Tail(%d) % x, want % x", c.n, got, want)
		}
	}
}

// P2.3: what a caller does with an answer, spare room included, is not to be seen in the next one.
func TestTailIsNewMemory(t *testing.T) {
	for _, n := range []uint64{0, 55, 56, 63, 64, 1 << 61} {
		first := sha.Tail(n)
		second := sha.Tail(n)
		spare := first[:cap(first)]
		for i := range spare {
			spare[i] = 77
		}
		for _, got := range [][]byte{second, sha.Tail(n)} {
			if !bytes.Equal(got, slowTail(n)) {
				t.Errorf("P2.3: Tail(%d) is % x behind a write over another answer", n, got)
			}
		}
	}
}

// P2.4: the examples.
func TestSumOfTheExamples(t *testing.T) {
	million := bytes.Repeat([]byte("a"), 1000000)
	for _, c := range []struct {
		b    []byte
		want string
	}{
		{nil, "e3b0c44298fc1c149afbf4c8996fb92427ae41e4649b934ca495991b7852b855"},
		{[]byte{}, "e3b0c44298fc1c149afbf4c8996fb92427ae41e4649b934ca495991b7852b855"},
		{[]byte("abc"), "ba7816bf8f01cfea414140de5dae2223b00361a396177a9cb410ff61f20015ad"},
		{[]byte("abcdbcdecdefdefgefghfghighijhijkijkljklmklmnlmnomnopnopq"), "248d6a61d20638b8e5c026930c3e6039a33ce45964ff2167f6ecedd419db06c1"},
		{million, "cdc76e5c9914fb9281a1c7e284d73e67f1809a48a497200e046d39ccc7112cd0"},
	} {
		wantKey(t, "P2.4: Sum", sha.Sum(c.b), keyOf(t, c.want))
	}
	wantWords(t, "P2.2: Block of Start and Tail(0)", sha.Block(sha.Start(), [64]byte(sha.Tail(0))), wordsOf(sha.Sum(nil)))
}

// blocks is P2.4 by its words.
func blocks(b []byte) [8]uint32 {
	whole := append(slices.Clone(b), sha.Tail(uint64(len(b)))...)
	state := sha.Start()
	for ; len(whole) > 0; whole = whole[64:] {
		state = sha.Block(state, [64]byte(whole))
	}
	return state
}

// P2.4: every length of a few blocks, and some greater ones.
func TestSumIsItsBlocks(t *testing.T) {
	x := dice(2)
	lengths := []int{511, 512, 513, 8191, 8192, 8193, 100003}
	for n := range 300 {
		lengths = append(lengths, n)
	}
	for _, n := range lengths {
		for _, b := range [][]byte{x.bytes(n), make([]byte, n), bytes.Repeat([]byte{255}, n)} {
			got := sha.Sum(b)
			wantKey(t, "P2.4: Sum", got, sha256.Sum256(b))
			wantWords(t, "P2.4: Sum and its Blocks", wordsOf(got), blocks(b))
		}
	}
}

// P2.4: nothing is changed, the room behind the list included, and nothing is kept.
func TestSumLeavesTheListAsItWas(t *testing.T) {
	x := dice(3)
	for _, n := range []int{0, 1, 55, 56, 63, 64, 65, 128, 200} {
		room := x.bytes(n + 200)
		was := slices.Clone(room)
		b := room[:n]
		first := sha.Sum(b)
		if !bytes.Equal(room, was) {
			t.Errorf("P2.4: Sum of %d bytes changed the list or the room behind it", n)
		}
		wantKey(t, "P2.4: Sum asked twice", sha.Sum(b), first)
		wantKey(t, "P2.4: Sum of other memory", sha.Sum(slices.Clone(b)), first)
		for i := range b {
			b[i]++
			got := sha.Sum(b)
			if got == first {
				t.Errorf("P2.4: Sum of %d bytes is the same with byte %d written over", n, i)
			}
			wantKey(t, "P2.4: Sum of a list that was written over", got, sha256.Sum256(b))
			b[i]--
		}
		wantKey(t, "P2.4: Sum of the list as it was", sha.Sum(b), first)
	}
}
