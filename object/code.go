package object

import (
	"math"

	"gleaner/api"
	"gleaner/wire"
)

// maxParents is how many parents a snapshot may have: its tree is a kid too.
const maxParents = api.MaxKids - 1

// Encode is its one form as bytes (P4.2).
func Encode(o api.Object) ([]byte, api.Errno) {
	e, no := laid(o)
	return e.Bytes(), no
}

// laid is an object's encoding; nil and the reason, if it may not be.
func laid(o api.Object) (*wire.Enc, api.Errno) {
	if no := wrong(o); no != api.OK {
		return nil, no
	}
	// Nothing else bounds a blob, so a huge one is refused ahead of copying it.
	if len(o.Data) > api.MaxObject {
		return nil, api.ErrLarge
	}
	var e wire.Enc
	lay(&e, o)
	if e.Len() > api.MaxObject {
		return nil, api.ErrLarge
	}
	return &e, api.OK
}

func lay(e *wire.Enc, o api.Object) {
	wire.Put(e, o.Kind)
	switch o.Kind {
	case api.Blob:
		e.Raw(o.Data)
	case api.List:
		e.Var(uint64(len(o.Parts)))
		for _, p := range o.Parts {
			e.Key(p.Key)
			e.Var(p.Size)
		}
	case api.Tree:
		e.Var(uint64(len(o.Items)))
		for _, i := range o.Items {
			e.Text(i.Name)
			wire.Put(e, i.Mode)
			e.Var(i.Size)
			e.Key(i.Key)
		}
	case api.Snap:
		e.Key(o.Tree)
		e.Var(uint64(len(o.Parents)))
		for _, k := range o.Parents {
			e.Key(k)
		}
		wire.Put(e, o.Time)
		e.Text(o.Note)
	}
}

// Decode is the object whose encoding these are (P4.3).
//
// Takes that go through all bytes answer what was laid down as these bytes, in
// one way only, so that nothing but the object itself is left to be asked.
func Decode(b []byte) (api.Object, api.Errno) {
	if len(b) > api.MaxObject {
		return api.Object{}, api.ErrLarge
	}
	d := wire.Open(b)
	o := api.Object{Kind: wire.Take[api.Kind](d)}
	take := taker(o.Kind)
	if take == nil {
		return api.Object{}, api.ErrObject
	}
	take(d, &o)
	if d.End() != nil || wrong(o) != api.OK {
		return api.Object{}, api.ErrObject
	}
	return o, api.OK
}

// taker is what takes off the fields of a kind; nil, if the kind is none.
func taker(kind api.Kind) func(*wire.Dec, *api.Object) {
	switch kind {
	case api.Blob:
		return func(d *wire.Dec, o *api.Object) {
			o.Data = d.Raw(d.Left())
		}
	case api.List:
		return func(d *wire.Dec, o *api.Object) {
			o.Parts = wire.Each(d, api.MaxKids, takePart)
		}
	case api.Tree:
		return func(d *wire.Dec, o *api.Object) {
			o.Items = wire.Each(d, api.MaxKids, takeItem)
		}
	case api.Snap:
		return func(d *wire.Dec, o *api.Object) {
			o.Tree = d.Key()
			o.Parents = wire.Each(d, maxParents, (*wire.Dec).Key)
			o.Time = wire.Take[int64](d)
			o.Note = d.Text(api.MaxNote)
		}
	}
	return nil
}

func takePart(d *wire.Dec) api.Part {
	var p api.Part
	p.Key = d.Key()
	p.Size = d.Var(api.MaxTotal)
	return p
}

func takeItem(d *wire.Dec) api.Item {
	var i api.Item
	i.Name = d.Text(api.MaxName)
	i.Mode = wire.Take[api.Mode](d)
	i.Size = d.Var(math.MaxUint64)
	i.Key = d.Key()
	return i
}
