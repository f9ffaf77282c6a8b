package roots_test

import (
	"slices"
	"strings"

	"gleaner/api"
)

// plain is the chapter's words over lists: one for each version, whole.
type plain struct{ lists [][]api.Root }

func plainNew() *plain { return &plain{lists: [][]api.Root{nil}} }

func plainIsName(s string) bool {
	rest := strings.Trim(s, "abcdefghijklmnopqrstuvwxyz0123456789-_./")
	return s != "" && rest == "" && len(s) <= 32
}

func plainFrom(list []api.Root) (*plain, api.Errno) {
	for i, x := range list {
		if !plainIsName(x.Name) || i > 0 && strings.Compare(list[i-1].Name, x.Name) >= 0 {
			return nil, api.ErrName
		}
	}
	if len(list) > 64 {
		return nil, api.ErrRoots
	}
	return &plain{lists: [][]api.Root{slices.Clone(list)}}, api.OK
}

func (p *plain) All() []api.Root { return slices.Clone(p.lists[len(p.lists)-1]) }

func (p *plain) Len() int { return len(p.All()) }

func (p *plain) Version() uint64 { return uint64(len(p.lists)) - 1 }

// place is where a name stands in a list, or -1.
func place(list []api.Root, name string) int {
	return slices.IndexFunc(list, func(x api.Root) bool { return x.Name == name })
}

func (p *plain) Set(name string, k api.Key) api.Errno {
	if !plainIsName(name) {
		return api.ErrName
	}
	list := p.All()
	if i := place(list, name); i >= 0 {
		list[i].Key = k
	} else {
		list = append(list, api.Root{Name: name, Key: k})
	}
	if len(list) > 64 {
		return api.ErrRoots
	}
	slices.SortFunc(list, func(a, b api.Root) int { return strings.Compare(a.Name, b.Name) })
	p.lists = append(p.lists, list)
	return api.OK
}

func (p *plain) Drop(name string) api.Errno {
	if !plainIsName(name) {
		return api.ErrName
	}
	list := p.All()
	i := place(list, name)
	if i < 0 {
		return api.ErrRoot
	}
	p.lists = append(p.lists, slices.Delete(list, i, i+1))
	return api.OK
}

func (p *plain) Get(name string) (api.Key, api.Errno) {
	if !plainIsName(name) {
		return api.Key{}, api.ErrName
	}
	list := p.All()
	i := place(list, name)
	if i < 0 {
		return api.Key{}, api.ErrRoot
	}
	return list[i].Key, api.OK
}

func (p *plain) Next(after string, any bool) (api.Root, bool) {
	for _, x := range p.All() {
		if any || strings.Compare(x.Name, after) > 0 {
			return x, true
		}
	}
	return api.Root{}, false
}

func (p *plain) At(version uint64) ([]api.Root, api.Errno) {
	if version > p.Version() {
		return nil, api.ErrVersion
	}
	return slices.Clone(p.lists[version]), api.OK
}

// Turns asks of every name of the two lists what each of them has.
func (p *plain) Turns(from, to uint64) ([]api.Turn, api.Errno) {
	if from > p.Version() || to > p.Version() {
		return nil, api.ErrVersion
	}
	var names []string
	for _, x := range slices.Concat(p.lists[from], p.lists[to]) {
		names = append(names, x.Name)
	}
	slices.Sort(names)
	var out []api.Turn
	for _, name := range slices.Compact(names) {
		turn := api.Turn{Name: name}
		if i := place(p.lists[from], name); i >= 0 {
			turn.Had, turn.Old = true, p.lists[from][i].Key
		}
		if i := place(p.lists[to], name); i >= 0 {
			turn.Has, turn.New = true, p.lists[to][i].Key
		}
		if turn.Had != turn.Has || turn.Old != turn.New {
			out = append(out, turn)
		}
	}
	return out, api.OK
}
