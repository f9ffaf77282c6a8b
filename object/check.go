package object

import (
	"unicode/utf8"

	"gleaner/api"
)

// Check tells why an object may not be (P4.1).
func Check(o api.Object) api.Errno {
	_, no := laid(o)
	return no
}

// IsName tells whether an item may have this name (P4.7).
func IsName(s string) bool {
	if s == "" || len(s) > api.MaxName || s == "." || s == ".." || !utf8.ValidString(s) {
		return false
	}
	for _, r := range s {
		if r == '/' || r == 0 {
			return false
		}
	}
	return true
}

// wrong tells why an object may not be, as far as that hangs on its fields and
// not on how long they are together.
func wrong(o api.Object) api.Errno {
	switch {
	case o.Kind < api.Blob || o.Kind > api.Snap:
		return api.ErrKind
	case !Same(others(o), api.Object{}):
		return api.ErrForeign
	}
	switch o.Kind {
	case api.List:
		return wrongList(o.Parts)
	case api.Tree:
		return wrongTree(o.Items)
	case api.Snap:
		return wrongSnap(o.Parents, o.Note)
	}
	return api.OK
}

// others is an object without its kind and the fields of it.
func others(o api.Object) api.Object {
	switch o.Kind {
	case api.Blob:
		o.Data = nil
	case api.List:
		o.Parts = nil
	case api.Tree:
		o.Items = nil
	case api.Snap:
		o.Tree, o.Parents, o.Time, o.Note = api.Key{}, nil, 0, ""
	}
	o.Kind = 0
	return o
}

func wrongList(parts []api.Part) api.Errno {
	if len(parts) > api.MaxKids {
		return api.ErrMany
	}
	// What is left is counted down: the sizes together might not fit in a number.
	left := uint64(api.MaxTotal)
	for _, p := range parts {
		if p.Size > left {
			return api.ErrTotal
		}
		left -= p.Size
	}
	return api.OK
}

func wrongTree(items []api.Item) api.Errno {
	if len(items) > api.MaxKids {
		return api.ErrMany
	}
	ahead := "" // no name, and below all of them
	for _, i := range items {
		switch {
		case !IsName(i.Name):
			return api.ErrItem
		case i.Name <= ahead:
			return api.ErrRise
		case !isMode(i.Mode) || i.Mode == api.Dir && i.Size != 0:
			return api.ErrMode
		}
		ahead = i.Name
	}
	return api.OK
}

func isMode(m api.Mode) bool { return m >= api.File && m <= api.Link }

func wrongSnap(parents []api.Key, note string) api.Errno {
	switch {
	case len(parents) > maxParents:
		return api.ErrMany
	case len(note) > api.MaxNote || !utf8.ValidString(note):
		return api.ErrNote
	}
	return api.OK
}
