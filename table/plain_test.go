package table_test

import "iter"

// What a slot of the plain table is.
const (
	isEmpty = 0
	isFull  = 'f'
	isTomb  = 't'
)

type plainSlot[K comparable, V any] struct {
	what rune
	k    K
	v    V
}

type slots[K comparable, V any] []plainSlot[K, V]

// count is how many slots are of a kind.
func (a slots[K, V]) count(what rune) int {
	n := 0
	for _, s := range a {
		if s.what == what {
			n++
		}
	}
	return n
}

// way is the slot (h + i) modulo C, reckoned without a sum that wraps round.
func (a slots[K, V]) way(h uint64, i int) int {
	c := uint64(len(a))
	return int((h%c + uint64(i)) % c)
}

// find is the slot with a key (-1: it is not there), and how many were looked at.
func (a slots[K, V]) find(h uint64, k K) (int, int) {
	for i := range a {
		at := a.way(h, i)
		if a[at].what == isFull && a[at].k == k {
			return at, i + 1
		}
		if a[at].what == isEmpty {
			return -1, i + 1
		}
	}
	return -1, len(a)
}

func (a slots[K, V]) lay(h uint64, k K, v V) {
	to := -1
	for i := range a {
		at := a.way(h, i)
		if a[at].what == isTomb && to == -1 {
			to = at
		}
		if a[at].what == isEmpty {
			if to == -1 {
				to = at
			}
			break
		}
	}
	a[to] = plainSlot[K, V]{isFull, k, v}
}

// plain is the chapter's words without any means: nothing is counted ahead, everything is reckoned anew whenever it is asked.
type plain[K comparable, V any] struct {
	hash    func(K) uint64
	younger slots[K, V]
	elder   slots[K, V] // nil: it does not move
	m       int
	did     string // what the last change came to
}

func newPlain[K comparable, V any](hash func(K) uint64) *plain[K, V] {
	return &plain[K, V]{hash: hash, younger: make(slots[K, V], 8)}
}

func (p *plain[K, V]) step() {
	if p.elder == nil {
		return
	}
	for at := p.m; at <= p.m+7; at++ {
		if s := p.elder[at]; s.what == isFull {
			p.younger.lay(p.hash(s.k), s.k, s.v)
			p.elder[at] = plainSlot[K, V]{what: isTomb}
		}
	}
	p.m += 8
	if p.m == len(p.elder) {
		p.elder, p.m = nil, 0
	}
}

func (p *plain[K, V]) Put(k K, v V) (V, bool) {
	p.step()
	if at, _ := p.younger.find(p.hash(k), k); at >= 0 {
		was := p.younger[at].v
		p.younger[at].v = v
		p.did = "Put in the younger"
		return was, true
	}
	if at, _ := p.elder.find(p.hash(k), k); at >= 0 {
		was := p.elder[at].v
		p.elder[at] = plainSlot[K, V]{what: isTomb}
		p.younger.lay(p.hash(k), k, v)
		p.did = "Put in the elder"
		return was, true
	}
	tombs := p.Tombs()
	p.younger.lay(p.hash(k), k, v)
	p.did = "Put of a new one"
	if p.Tombs() < tombs {
		p.did = "Put into a tomb"
	}
	if p.elder == nil && 4*(p.younger.count(isFull)+p.younger.count(isTomb)) > 3*len(p.younger) {
		least := 1
		for least < len(p.younger) || least < 2*p.Len()+2 {
			least *= 2
		}
		p.did = "Put, and it grows"
		if least == len(p.younger) {
			p.did = "Put, and it is cleared of tombs"
		}
		p.elder, p.younger = p.younger, make(slots[K, V], least)
	}
	var zero V
	return zero, false
}

func (p *plain[K, V]) Del(k K) (V, bool) {
	p.step()
	for _, a := range []slots[K, V]{p.younger, p.elder} {
		if at, _ := a.find(p.hash(k), k); at >= 0 {
			was := a[at].v
			a[at] = plainSlot[K, V]{what: isTomb}
			p.did = "Del in the younger"
			if len(p.elder) > 0 && &a[0] == &p.elder[0] {
				p.did = "Del in the elder"
			}
			return was, true
		}
	}
	var zero V
	p.did = "Del of none"
	return zero, false
}

func (p *plain[K, V]) Get(k K) (V, bool) {
	for _, a := range []slots[K, V]{p.younger, p.elder} {
		if at, _ := a.find(p.hash(k), k); at >= 0 {
			return a[at].v, true
		}
	}
	var zero V
	return zero, false
}

func (p *plain[K, V]) Len() int   { return p.elder.count(isFull) + p.younger.count(isFull) }
func (p *plain[K, V]) Cap() int   { return len(p.younger) }
func (p *plain[K, V]) Tombs() int { return p.younger.count(isTomb) }
func (p *plain[K, V]) Left() int  { return len(p.elder) - p.m }

func (p *plain[K, V]) Probes(k K) int {
	at, n := p.younger.find(p.hash(k), k)
	if at == -1 {
		_, more := p.elder.find(p.hash(k), k)
		n += more
	}
	return n
}

func (p *plain[K, V]) All() iter.Seq2[K, V] {
	return func(yield func(K, V) bool) {
		for _, a := range []slots[K, V]{p.elder, p.younger} {
			for _, s := range a {
				if s.what == isFull && !yield(s.k, s.v) {
					return
				}
			}
		}
	}
}

// bounds tells what P11.7 says of the younger array that is not so.
func (p *plain[K, V]) bounds() string {
	used, c := p.younger.count(isFull)+p.younger.count(isTomb), len(p.younger)
	switch {
	case p.elder != nil && 8*used > 5*c:
		return "more than five of eight while it moves"
	case 4*used > 3*c:
		return "more than three of four"
	case p.elder != nil && 4*(p.elder.count(isFull)+p.elder.count(isTomb)-1) > 3*len(p.elder):
		return "more than three of four, and one more, in the elder array"
	}
	return ""
}
