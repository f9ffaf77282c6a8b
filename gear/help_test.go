package gear_test

import (
	"math/big"
	"slices"

	"gleaner/api"
)

// text and small are X and r of the chapter's examples.
const text = "what is cut where it says so itself is cut alike behind a change"

var small = api.Cut{Min: 2, Mean: 4, Max: 8}

// rules may be, each of them; they lie at every bound and between.
var rules = []api.Cut{
	small,
	{Min: 1, Mean: 4, Max: 4}, {Min: 4, Mean: 4, Max: 4}, {Min: 4, Mean: 4, Max: 9}, {Min: 1, Mean: 4, Max: 5}, {Min: 3, Mean: 4, Max: 5},
	{Min: 1, Mean: 8, Max: 8000}, {Min: 5, Mean: 8, Max: 11}, {Min: 15, Mean: 16, Max: 17}, {Min: 1, Mean: 16, Max: 16}, {Min: 16, Mean: 16, Max: 40},
	{Min: 1, Mean: 64, Max: 100}, {Min: 30, Mean: 64, Max: 200}, {Min: 64, Mean: 64, Max: 64}, {Min: 100, Mean: 256, Max: 600},
	{Min: 1, Mean: 4096, Max: 4096}, {Min: 4096, Mean: 4096, Max: 4096}, {Min: 1, Mean: 4096, Max: 8000}, {Min: 4096, Mean: 4096, Max: 8000}, {Min: 1000, Mean: 2048, Max: 5000},
}

// wrong may not be, none of them.
var wrong = []api.Cut{
	{}, {Min: 0, Mean: 4, Max: 8}, {Min: 5, Mean: 4, Max: 8}, {Min: 1, Mean: 6, Max: 8}, {Min: 1, Mean: 8, Max: 7},
	{Min: 1, Mean: 2, Max: 8}, {Min: 1, Mean: 4096, Max: 8001}, {Min: 1, Mean: 8192, Max: 8192}, {Min: -1, Mean: 4, Max: 8}, {Min: 1, Mean: -4, Max: 8},
}

// dice throws numbers that look like chance and are the same in each run.
type dice uint64

func (x *dice) throw(n int) int {
	*x = *x*6364136223846793005 + 1442695040888963407
	return int(uint64(*x)>>33) % n
}

func (x *dice) bytes(n int) []byte {
	b := make([]byte, n)
	for i := range b {
		b[i] = byte(x.throw(256))
	}
	return b
}

// contents are lists of bytes that are cut in unlike ways: of chance, of few values, of one value, and of one value with others strewn in.
func contents(n int) map[string][]byte {
	x := dice(n)
	few, strewn := x.bytes(n), make([]byte, n)
	for i := range few {
		few[i] %= 3
		if x.throw(50) == 0 {
			strewn[i] = byte(x.throw(256))
		}
	}
	return map[string][]byte{"chance": x.bytes(n), "few values": few, "zeros": make([]byte, n), "strewn": strewn}
}

// word is P5.1's reckoning in numbers without a bound, cut to 64 bits behind each step.
func word(b byte) uint64 {
	cut := new(big.Int).Lsh(big.NewInt(1), 64)
	times := func(z *big.Int, hex string) *big.Int {
		f, _ := new(big.Int).SetString(hex, 16)
		return z.Mod(z.Mul(z, f), cut)
	}
	fold := func(z *big.Int, n uint) *big.Int { return new(big.Int).Xor(z, new(big.Int).Rsh(z, n)) }
	z := times(big.NewInt(int64(b)+1), "9E3779B97F4A7C15")
	z = times(fold(z, 30), "BF58476D1CE4E5B9")
	z = times(fold(z, 27), "94D049BB133111EB")
	return fold(z, 31).Uint64()
}

// words is word of every byte.
var words = func() (out [256]uint64) {
	for b := range out {
		out[b] = word(byte(b))
	}
	return out
}()

// rolled is P5.2's number behind these bytes, without rolling: each byte's word as often doubled as bytes stand behind it (64 times: nothing is left of it).
func rolled(b []byte) uint64 {
	sum := uint64(0)
	for i := max(0, len(b)-64); i < len(b); i++ {
		sum += words[b[i]] << (len(b) - 1 - i)
	}
	return sum
}

// why tells by which of P5.2's three ways a piece ends.
type why int

const (
	never why = iota
	early
	late
	atMax
)

// ends tells how long data's first piece is, and why it ends; never: data ends first.
func ends(r api.Cut, data []byte) (int, why) {
	m := 0
	for 1<<m < r.Mean {
		m++
	}
	for n := 1; n <= len(data); n++ {
		h := rolled(data[:n])
		switch {
		case n == r.Max:
			return n, atMax
		case r.Min <= n && n <= r.Mean-1 && h>>(63-m) == 0:
			return n, early
		case r.Mean <= n && h>>(65-m) == 0:
			return n, late
		}
	}
	return len(data), never
}

// lengths is what Cut is to tell.
func lengths(r api.Cut, data []byte) []int {
	var out []int
	for at := 0; at < len(data); {
		n, _ := ends(r, data[at:])
		out = append(out, n)
		at += n
	}
	return out
}

// parted is data in pieces of these lengths.
func parted(data []byte, lengths []int) []string {
	var out []string
	for _, n := range lengths {
		out = append(out, string(data[:n]))
		data = data[n:]
	}
	return out
}

// roomy is a copy of b with spare room behind it that has marks in it.
func roomy(b []byte) []byte {
	all := append(slices.Clone(b), "spare room"...)
	return all[:len(b)]
}

// scribble writes over all of b, spare room included.
func scribble(b []byte) {
	b = b[:cap(b)]
	for i := range b {
		b[i] ^= 0x5A
	}
}

// untouched tells whether b and the spare room behind it are as roomy(was) made them.
func untouched(b []byte, was string) bool {
	return string(b[:len(b)+10]) == was+"spare room"
}
