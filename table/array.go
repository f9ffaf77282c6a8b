package table

// state is what a slot is.
type state uint8

const (
	empty state = iota
	full
	tomb
)

// slot has a key and a value, if it is full; else both are zero, so that nothing is kept of what was taken out.
type slot[K comparable, V any] struct {
	state state
	key   K
	value V
}

// array is some slots, as many as a power of two, or none at all; at least one of them is empty, so each way ends there.
type array[K comparable, V any] struct {
	slots []slot[K, V]
	full  int
	tombs int
}

func newArray[K comparable, V any](slots int) array[K, V] {
	return array[K, V]{slots: make([]slot[K, V], slots)}
}

// way is the slot at which the way of a hash comes by its step i. The sum may wrap round: 2^64 is a multiple of the slots.
func (a *array[K, V]) way(h uint64, i int) int {
	return int((h + uint64(i)) % uint64(len(a.slots)))
}

// find is the slot that has a key of that hash, and how many slots were looked at; false: none has it.
func (a *array[K, V]) find(h uint64, k K) (at, looked int, ok bool) {
	for i := range len(a.slots) {
		at = a.way(h, i)
		switch a.slots[at].state {
		case empty:
			return 0, i + 1, false
		case full:
			if a.slots[at].key == k {
				return at, i + 1, true
			}
		}
	}
	return 0, len(a.slots), false
}

// lay puts a pair in whose key is not there. The first slot of the way that is not full is a tomb ahead of the first empty one, or that one itself.
func (a *array[K, V]) lay(h uint64, k K, v V) {
	for i := range len(a.slots) {
		at := a.way(h, i)
		if a.slots[at].state == full {
			continue
		}
		if a.slots[at].state == tomb {
			a.tombs--
		}
		a.slots[at] = slot[K, V]{state: full, key: k, value: v}
		a.full++
		return
	}
}

// bury makes a full slot a tomb, and tells the value that was there.
func (a *array[K, V]) bury(at int) V {
	was := a.slots[at].value
	a.slots[at] = slot[K, V]{state: tomb}
	a.full--
	a.tombs++
	return was
}
