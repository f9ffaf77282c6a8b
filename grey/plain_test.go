package grey_test

import (
	"iter"
	"math"

	"gleaner/api"
)

// plain is the chapter's words over a list that is laid anew at each change.
type plain[T any] struct{ list []T }

func (p *plain[T]) PushTop(v T) { p.list = joined(p.list, []T{v}) }

func (p *plain[T]) PushBottom(v T) { p.list = joined([]T{v}, p.list) }

// joined is a new list of two.
func joined[T any](a, b []T) []T { return append(append([]T{}, a...), b...) }

func (p *plain[T]) PopTop() (v T, ok bool) {
	if n := len(p.list); n > 0 {
		v, ok = p.list[n-1], true
		p.list = joined(p.list[:n-1], nil)
	}
	return v, ok
}

func (p *plain[T]) PopBottom() (v T, ok bool) {
	if len(p.list) > 0 {
		v, ok = p.list[0], true
		p.list = joined(p.list[1:], nil)
	}
	return v, ok
}

func (p *plain[T]) At(i int) (v T, ok bool) {
	for at, x := range p.list {
		if at == i {
			v, ok = x, true
		}
	}
	return v, ok
}

func (p *plain[T]) Set(i int, v T) bool {
	_, ok := p.At(i)
	if ok {
		p.list = joined(p.list, nil)
		p.list[i] = v
	}
	return ok
}

func (p *plain[T]) Len() int { return len(p.list) }

// Turn leaves out as many times as lead back to where they began; how many those are is reckoned without signs.
func (p *plain[T]) Turn(n int) {
	if len(p.list) == 0 {
		return
	}
	times := uint64(n)
	if n < 0 {
		times = -times
	}
	for range times % uint64(len(p.list)) {
		if n > 0 {
			v, _ := p.PopBottom()
			p.PushTop(v)
		} else {
			v, _ := p.PopTop()
			p.PushBottom(v)
		}
	}
}

func (p *plain[T]) All() iter.Seq2[int, T] {
	list := p.list
	return func(yield func(int, T) bool) {
		for i, v := range list {
			if !yield(i, v) {
				return
			}
		}
	}
}

// plainList is the chapter's words of the work list.
type plainList struct{ greys []api.Grey }

func (p *plainList) Push(k api.Key) { p.greys = joined(p.greys, []api.Grey{{Key: k}}) }

// end is the place at an end; -1, if there is nothing.
func (p *plainList) end(bottom bool) int {
	if bottom {
		return min(0, len(p.greys)-1)
	}
	return len(p.greys) - 1
}

func (p *plainList) look(bottom bool) (api.Grey, bool) {
	at := p.end(bottom)
	if at < 0 {
		return api.Grey{}, false
	}
	return p.greys[at], true
}

func (p *plainList) Top() (api.Grey, bool)    { return p.look(false) }
func (p *plainList) Bottom() (api.Grey, bool) { return p.look(true) }

func (p *plainList) Bump(bottom bool) (api.Grey, bool) {
	g, ok := p.look(bottom)
	if ok && g.Next != math.MaxInt {
		p.greys = joined(p.greys, nil)
		p.greys[p.end(bottom)].Next++
	}
	return p.look(bottom)
}

func (p *plainList) Pop(bottom bool) (api.Grey, bool) {
	g, ok := p.look(bottom)
	if ok {
		at := p.end(bottom)
		p.greys = joined(p.greys[:at], p.greys[at+1:])
	}
	return g, ok
}

func (p *plainList) Len() int { return len(p.greys) }

func (p *plainList) All() []api.Grey { return p.greys }
