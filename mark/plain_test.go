package mark_test

import (
	"slices"
	"strings"

	"gleaner/api"
)

// held is what the plain one has under a key.
type held struct {
	marked
	kids    []api.Key
	spoiled bool
}

// plain is the chapter's words over plain lists: what is held lies in no order, the work list from the bottom on.
type plain struct {
	in   []held
	list []api.Grey
}

// at is where a key is held; below 0: nowhere.
func (p *plain) at(k api.Key) int {
	return slices.IndexFunc(p.in, func(h held) bool { return h.key == k })
}

// standing are the keys that stand in an object, whatever its kind is: the fields of the other kinds are zero.
func standing(o api.Object) []api.Key {
	var out []api.Key
	for _, p := range o.Parts {
		out = append(out, p.Key)
	}
	for _, i := range o.Items {
		out = append(out, i.Key)
	}
	if o.Kind == api.Snap {
		out = append(out, o.Tree)
	}
	return append(out, o.Parents...)
}

func (p *plain) put(k api.Key, o api.Object, epoch uint32) bool {
	if p.at(k) >= 0 {
		return false
	}
	p.in = append(p.in, held{marked: marked{k, epoch}, kids: standing(o)})
	return true
}

func (p *plain) spoil(k api.Key) {
	if i := p.at(k); i >= 0 {
		p.in[i].spoiled = !p.in[i].spoiled
	}
}

func (p *plain) del(k api.Key) bool {
	i := p.at(k)
	if i < 0 {
		return false
	}
	p.in = slices.Delete(p.in, i, i+1)
	return true
}

func (p *plain) mark(k api.Key, epoch uint32) bool {
	i := p.at(k)
	if i < 0 || p.in[i].mark == epoch {
		return false
	}
	p.in[i].mark = epoch
	return true
}

func (p *plain) push(k api.Key) { p.list = append(p.list, api.Grey{Key: k}) }

// end is the place of an end in the work list; below 0: it is empty.
func (p *plain) end(bottom bool) int {
	if bottom && len(p.list) > 0 {
		return 0
	}
	return len(p.list) - 1
}

func (p *plain) bump(bottom bool) {
	if i := p.end(bottom); i >= 0 {
		p.list[i].Next++
	}
}

func (p *plain) pop(bottom bool) {
	if i := p.end(bottom); i >= 0 {
		p.list = slices.Delete(p.list, i, i+1)
	}
}

func (p *plain) marks() []marked {
	var out []marked
	for _, h := range p.in {
		out = append(out, h.marked)
	}
	slices.SortFunc(out, func(a, b marked) int { return strings.Compare(string(a.key[:]), string(b.key[:])) })
	return out
}

func (p *plain) greys() []api.Grey { return slices.Clone(p.list) }

func (p *plain) Touch(k api.Key, epoch uint32) bool {
	if !p.mark(k, epoch) {
		return false
	}
	p.push(k)
	return true
}

func (p *plain) Kids(k api.Key) ([]api.Key, api.Errno) {
	i := p.at(k)
	switch {
	case i < 0:
		return nil, api.ErrGone
	case p.in[i].spoiled:
		return nil, api.ErrBroken
	}
	return slices.Clone(p.in[i].kids), api.OK
}

func (p *plain) Piece(epoch uint32, bottom bool) (bool, api.Errno) {
	at := p.end(bottom)
	if at < 0 {
		return false, api.OK
	}
	g := p.list[at]
	kids, no := p.Kids(g.Key)
	switch {
	case no != api.OK:
		p.pop(bottom)
		return true, no
	case len(kids) > g.Next:
		p.bump(bottom)
		p.Touch(kids[g.Next], epoch)
	default:
		p.pop(bottom)
	}
	return true, api.OK
}
