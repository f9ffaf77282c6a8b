package wire_test

import (
	"bytes"
	"math"
	"testing"

	"gleaner/wire"
)

// dice are numbers that look thrown, the same in every run.
type dice uint64

func (x *dice) throw(n int) int {
	*x = *x*6364136223846793005 + 1442695040888963407
	return int(uint64(*x) >> 33 % uint64(n))
}

// wide is a number of any count of bits.
func (x *dice) wide() uint64 {
	v := uint64(x.throw(1<<30))<<34 ^ uint64(x.throw(1<<30))<<17 ^ uint64(x.throw(1<<30))
	return v >> x.throw(64)
}

func (x *dice) bytes(n int) []byte {
	b := make([]byte, n)
	for i := range b {
		b[i] = byte(x.throw(256))
	}
	return b
}

// kinds is how many kinds of takes there are below.
const kinds = 13

// again takes a value of a kind off d and adds it to e.
func again(kind, n int, d *wire.Dec, e *wire.Enc) {
	switch kind {
	case 0:
		e.Var(d.Var(math.MaxUint64))
	case 1:
		e.Text(d.Text(math.MaxInt))
	case 2:
		e.Raw(d.Raw(n))
	case 3:
		e.Key(d.Key())
	case 4:
		wire.Put(e, wire.Take[int8](d))
	case 5:
		wire.Put(e, wire.Take[int16](d))
	case 6:
		wire.Put(e, wire.Take[int32](d))
	case 7:
		wire.Put(e, wire.Take[int64](d))
	case 8:
		wire.Put(e, wire.Take[uint8](d))
	case 9:
		wire.Put(e, wire.Take[uint16](d))
	case 10:
		wire.Put(e, wire.Take[uint32](d))
	case 11:
		wire.Put(e, wire.Take[uint64](d))
	case 12:
		list := wire.Each(d, 1<<16, wire.Take[int16])
		e.Var(uint64(len(list)))
		for _, v := range list {
			wire.Put(e, v)
		}
	}
}

// addSome adds a value of a kind, and gives a check that the take answers it.
func addSome(kind, n int, x *dice, e *wire.Enc) func(d *wire.Dec) bool {
	v := x.wide()
	switch kind {
	case 0:
		e.Var(v)
		return func(d *wire.Dec) bool { return d.Var(v) == v }
	case 1:
		s := string(x.bytes(n))
		e.Text(s)
		return func(d *wire.Dec) bool { return d.Text(n) == s }
	case 2:
		b := x.bytes(n)
		e.Raw(b)
		return func(d *wire.Dec) bool { return bytes.Equal(d.Raw(n), b) }
	case 3:
		k := someKey()
		k[n%32] = byte(v)
		e.Key(k)
		return func(d *wire.Dec) bool { return d.Key() == k }
	case 4:
		return addNumber(e, int8(v))
	case 5:
		return addNumber(e, int16(v))
	case 6:
		return addNumber(e, int32(v))
	case 7:
		return addNumber(e, int64(v))
	case 8:
		return addNumber(e, uint8(v))
	case 9:
		return addNumber(e, uint16(v))
	case 10:
		return addNumber(e, uint32(v))
	case 11:
		return addNumber(e, v)
	}
	return addList(e, n, int16(v))
}

func addNumber[N wire.Whole](e *wire.Enc, v N) func(d *wire.Dec) bool {
	wire.Put(e, v)
	return func(d *wire.Dec) bool { return wire.Take[N](d) == v }
}

func addList(e *wire.Enc, n int, v int16) func(d *wire.Dec) bool {
	e.Var(uint64(n))
	for i := range n {
		wire.Put(e, v+int16(i))
	}
	return func(d *wire.Dec) bool {
		list := wire.Each(d, n, wire.Take[int16])
		for i, w := range list {
			if w != v+int16(i) {
				return false
			}
		}
		return len(list) == n
	}
}

// P1.8: what was added is taken off by the same calls in their order.
func TestThereAndBack(t *testing.T) {
	x := dice(1)
	for run := range 500 {
		var e wire.Enc
		var checks []func(d *wire.Dec) bool
		for range x.throw(12) {
			checks = append(checks, addSome(x.throw(kinds), x.throw(300), &x, &e))
		}
		d := wire.Open(e.Bytes())
		for i, ok := range checks {
			if !ok(d) {
				t.Fatalf("P1.8: run %d: value %d comes back as another", run, i)
			}
		}
		if err := d.End(); err != nil || d.At() != e.Len() {
			t.Fatalf("P1.8: run %d: End %v, At %d of %d", run, err, d.At(), e.Len())
		}
	}
}

// P1.8: takes that go through any bytes, added again, give these bytes.
func TestBackAndThere(t *testing.T) {
	x := dice(2)
	through := 0
	for range 200000 {
		// Few unlike bytes, so that numbers that no adding makes come up often.
		b := x.bytes(x.throw(14))
		for i := range b {
			if x.throw(2) == 0 {
				b[i] = []byte{0, 1, 2, 127, 128, 129, 255}[x.throw(7)]
			}
		}
		var e wire.Enc
		d := wire.Open(b)
		for range 1 + x.throw(4) {
			again(x.throw(kinds), x.throw(4), d, &e)
		}
		if d.End() != nil {
			continue
		}
		through++
		if !bytes.Equal(e.Bytes(), b) {
			t.Fatalf("P1.8: % x comes back as % x", b, e.Bytes())
		}
	}
	if through < 1000 {
		t.Errorf("only %d runs went through their bytes", through)
	}
}

// P1.8: of all runs of one to three bytes, each that Var takes off is the one that Var adds.
func TestEveryShortNumber(t *testing.T) {
	for length := 1; length <= 3; length++ {
		for n := range 1 << (8 * length) {
			b := []byte{byte(n), byte(n >> 8), byte(n >> 16)}[:length]
			d := wire.Open(b)
			v := d.Var(math.MaxUint64)
			if d.End() != nil {
				continue
			}
			if got := laid(func(e *wire.Enc) { e.Var(v) }); !bytes.Equal(got, b) {
				t.Fatalf("P1.8: % x is %d, which is added as % x", b, v, got)
			}
		}
	}
}
