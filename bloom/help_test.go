package bloom_test

import (
	"bytes"
	"math"
	"math/big"
	"slices"
	"strconv"
	"testing"

	"gleaner/api"
	"gleaner/bloom"
)

// dice throws numbers that look like chance and are the same in each run.
type dice uint64

func (x *dice) throw(n int) int {
	*x = *x*6364136223846793005 + 1442695040888963407
	return int(uint64(*x)>>33) % n
}

func (x *dice) key() api.Key {
	var k api.Key
	for i := range k {
		k[i] = byte(x.throw(256))
	}
	return k
}

func (x *dice) keys(n int) []api.Key {
	out := make([]api.Key, n)
	for i := range out {
		out[i] = x.key()
	}
	return out
}

// keyOf is a key of the numbers a and b, with bytes behind them that the filter is not to look at.
func keyOf(a, b uint64) api.Key {
	x := dice(a ^ b<<1)
	k := x.key()
	for i := range 8 {
		k[i] = byte(a >> (8 * i))
		k[8+i] = byte(b >> (8 * i))
	}
	return k
}

// at is a key all of whose places are one.
func at(place int) api.Key { return keyOf(uint64(place), 0) }

// places are the chapter's, reckoned in numbers without a bound.
func places(k api.Key, bits, hashes int) []int {
	number := func(b []byte) *big.Int {
		b = slices.Clone(b)
		slices.Reverse(b)
		return new(big.Int).SetBytes(b)
	}
	a, b := number(k[:8]), number(k[8:16])
	wrap := new(big.Int).Lsh(big.NewInt(1), 64)
	out := make([]int, hashes)
	for i := range out {
		n := new(big.Int).Mul(big.NewInt(int64(i)), b)
		n.Mod(n.Add(n, a), wrap)
		out[i] = int(n.Mod(n, big.NewInt(int64(bits))).Int64())
	}
	return out
}

// model is a filter as the set of its bits' places.
type model struct {
	bits, hashes int
	set          map[int]bool
}

func newModel(bits, hashes int) *model {
	return &model{bits: bits, hashes: hashes, set: map[int]bool{}}
}

func (m *model) add(k api.Key) bool {
	before := len(m.set)
	for _, p := range places(k, m.bits, m.hashes) {
		m.set[p] = true
	}
	return len(m.set) > before
}

func (m *model) has(k api.Key) bool {
	for _, p := range places(k, m.bits, m.hashes) {
		if !m.set[p] {
			return false
		}
	}
	return true
}

// bytes is P7.7's form.
func (m *model) bytes() []byte {
	out := make([]byte, 3+m.bits/8)
	words := m.bits / 64
	out[0], out[1], out[2] = byte(m.hashes), byte(words%256), byte(words/256)
	for p := range m.set {
		out[3+p/8] += 1 << (p % 8)
	}
	return out
}

// filter is the model as bloom's filter.
func (m *model) filter(t *testing.T) *bloom.Filter {
	t.Helper()
	f := fresh(t, m.bits, m.hashes)
	for p := range m.set {
		f.Add(at(p))
	}
	return f
}

// like holds all that a filter tells of itself against the model.
func (m *model) like(t *testing.T, what string, f *bloom.Filter) {
	t.Helper()
	if b, h := f.Shape(); b != m.bits || h != m.hashes {
		t.Errorf("P7.5: %s: Shape is %d, %d, want %d, %d", what, b, h, m.bits, m.hashes)
	}
	if got := f.Ones(); got != len(m.set) {
		t.Errorf("P7.5: %s: Ones is %d, want %d", what, got, len(m.set))
	}
	fill := quotient(len(m.set), m.bits)
	if got := f.Fill(); !alike(got, fill) {
		t.Errorf("P7.5: %s: Fill is %v, want %v", what, got, fill)
	}
	if got, want := f.Alarm(), power(fill, m.hashes); !alike(got, want) {
		t.Errorf("P7.5: %s: Alarm is %v, want %v", what, got, want)
	}
	if !bytes.Equal(f.Bytes(), m.bytes()) {
		t.Errorf("P7.4, P7.7: %s: other bits are set than should be", what)
	}
}

// some is a model in which each bit is set with one chance in so many.
func some(x *dice, bits, hashes, in int) *model {
	m := newModel(bits, hashes)
	for p := range bits {
		if x.throw(in) == 0 {
			m.set[p] = true
		}
	}
	return m
}

func fresh(t *testing.T, bits, hashes int) *bloom.Filter {
	t.Helper()
	f, no := bloom.New(bits, hashes)
	if f == nil || no != api.OK {
		t.Fatalf("P7.3: New(%d, %d): %d", bits, hashes, no)
	}
	return f
}

func opened(t *testing.T, b []byte) *bloom.Filter {
	t.Helper()
	f, no := bloom.Open(b)
	if f == nil || no != api.OK {
		t.Fatalf("P7.7: Open of %d bytes: %d", len(b), no)
	}
	return f
}

// product is x · y, rounded once: 106 bits hold it whole, and what is too small is rounded where float64 ends.
func product(x, y float64) float64 {
	z, _ := new(big.Float).SetPrec(106).Mul(big.NewFloat(x), big.NewFloat(y)).Float64()
	return z
}

// quotient is n / d, rounded once.
func quotient(n, d int) float64 {
	z, _ := new(big.Float).SetPrec(53).Quo(big.NewFloat(float64(n)), big.NewFloat(float64(d))).Float64()
	return z
}

// rest is 1 - x, rounded once.
func rest(x float64) float64 {
	z, _ := new(big.Float).SetPrec(53).Sub(big.NewFloat(1), big.NewFloat(x)).Float64()
	return z
}

// power is the chapter's pow by the binary digits of n.
func power(x float64, n int) float64 {
	z, b := 1.0, x
	digits := []byte(strconv.FormatInt(int64(n), 2))
	slices.Reverse(digits)
	for _, d := range digits {
		if d == '1' {
			z = product(z, b)
		}
		b = product(b, b)
	}
	return z
}

// rate is P7.1's reckoning, each operation by itself.
func rate(bits, hashes, added int) float64 {
	e := rest(quotient(1, bits))
	return power(rest(power(e, hashes*added)), hashes)
}

// alike tells whether two numbers are the same bit by bit.
func alike(a, b float64) bool { return math.Float64bits(a) == math.Float64bits(b) }

// roomy is a copy of b with spare room behind it that has marks in it.
func roomy(b []byte) []byte {
	return append(slices.Clone(b), "spare room"...)[:len(b)]
}

// untouched tells whether b and the spare room behind it are as roomy(was) made them.
func untouched(b, was []byte) bool {
	return string(b[:len(b)+10]) == string(was)+"spare room"
}

// scribble writes over all of b, spare room included.
func scribble(b []byte) {
	b = b[:cap(b)]
	for i := range b {
		b[i] ^= 0x5A
	}
}
