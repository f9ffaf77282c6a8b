package roots

import "gleaner/api"

// Version tells how many changes there were (P13.6).
func (r *Roots) Version() uint64 {
	if !r.there() {
		return 0
	}
	return uint64(len(r.tops) - 1)
}

// At tells the roots as they were (P13.6).
func (r *Roots) At(version uint64) ([]api.Root, api.Errno) {
	switch {
	case !r.there():
		return nil, api.ErrNil
	case version > r.Version():
		return nil, api.ErrVersion
	}
	return listed(r.tops[version]), api.OK
}

// listed is a list of its own of a version's roots, by name.
func listed(top *node) []api.Root {
	list := make([]api.Root, 0, top.count())
	for root := range top.all() {
		list = append(list, root)
	}
	return list
}

// Turns tells what is unlike in two versions (P13.7).
func (r *Roots) Turns(from, to uint64) ([]api.Turn, api.Errno) {
	old, no := r.At(from)
	if no != api.OK {
		return nil, no
	}
	now, no := r.At(to)
	if no != api.OK {
		return nil, no
	}
	return turns(old, now), api.OK
}

// turns goes through two lists side by side, both of which rise by name.
func turns(old, now []api.Root) []api.Turn {
	var out []api.Turn
	for len(old) > 0 || len(now) > 0 {
		switch {
		case len(now) == 0 || len(old) > 0 && old[0].Name < now[0].Name:
			out = append(out, api.Turn{Name: old[0].Name, Had: true, Old: old[0].Key})
			old = old[1:]
		case len(old) == 0 || now[0].Name < old[0].Name:
			out = append(out, api.Turn{Name: now[0].Name, Has: true, New: now[0].Key})
			now = now[1:]
		default:
			if old[0] != now[0] {
				out = append(out, api.Turn{Name: now[0].Name, Had: true, Has: true, Old: old[0].Key, New: now[0].Key})
			}
			old, now = old[1:], now[1:]
		}
	}
	return out
}
