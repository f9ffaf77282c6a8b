package cycle_test

import (
	"slices"

	"gleaner/api"
	"gleaner/frame"
	"gleaner/key"
	"gleaner/object"
)

// plain is a collector by the document's words, over plain parts. It keeps all that it has scanned and looked at in lists.
type plain struct {
	a *plainArena
	x *plainIndex
	r *plainRoots
	p *plainPins

	phase api.Phase
	epoch uint32
	list  []api.Grey

	names  []string  // the roots that were scanned
	stage  int       // 0: the roots; else one more than the session
	pins   []api.Key // those that were scanned of the session
	looked []api.Key // those that the sweep has looked at
	mover
	errs int // pieces of marking that answered an error
}

// mover is the plain one's state in Move.
type mover struct {
	row     []int
	off     int
	written []api.Room // one, if a record was written in the act before
	key     api.Key
	moved   int
	freed   int
	left    int
}

// newPlain is a plain collector over new plain parts.
func newPlain(c api.Config, epoch uint32) *world {
	p := plain{a: newPlainArena(c), x: &plainIndex{}, r: &plainRoots{}, p: &plainPins{}}
	w := &world{a: p.a, x: p.x, r: p.r, p: p.p, words: map[byte]api.Object{}}
	w.anew = func(epoch uint32) calls {
		return &plain{a: p.a, x: p.x, r: p.r, p: p.p, epoch: epoch}
	}
	w.c = w.anew(epoch)
	return w
}

func (p *plain) Phase() api.Phase { return p.phase }
func (p *plain) Epoch() uint32    { return p.epoch }
func (p *plain) Grey() []api.Grey { return slices.Clone(p.list) }

func (p *plain) Touch(k api.Key) {
	if p.phase != api.Rest && p.x.Mark(k, p.epoch) && (p.phase == api.Scan || p.phase == api.Trace) {
		p.list = append(p.list, api.Grey{Key: k})
	}
}

func (p *plain) Born(k api.Key) {
	if p.phase == api.Scan || p.phase == api.Trace {
		p.list = append(p.list, api.Grey{Key: k})
	}
}

func (p *plain) Begin() api.Errno {
	if p.phase != api.Rest {
		return api.ErrState
	}
	if p.epoch == 4294967295 {
		return api.ErrEpoch
	}
	p.epoch++
	p.phase, p.names, p.stage, p.pins = api.Scan, nil, 0, nil
	return api.OK
}

func (p *plain) Ready() bool {
	if p.phase != api.Move {
		return p.phase != api.Rest
	}
	return len(p.written) > 0 || len(p.row) == 0 || !p.behind() || p.a.segs[p.row[0]].held == 0
}

func (p *plain) Act() (bool, api.Errno) {
	if p.phase == api.Rest {
		return false, api.ErrState
	}
	if !p.Ready() {
		return false, api.ErrHeld
	}
	switch p.phase {
	case api.Scan:
		p.scan()
	case api.Trace:
		if len(p.list) > 0 {
			p.piece(false)
		} else {
			p.phase, p.looked = api.Sweep, nil
		}
	case api.Sweep:
		p.sweep()
	case api.Move:
		p.move()
	}
	return p.phase == api.Rest, api.OK
}

func (p *plain) Help() (bool, api.Errno) {
	if p.phase != api.Trace || len(p.list) == 0 {
		return false, api.OK
	}
	return true, p.piece(true)
}

// scan goes through all roots by name, or all pins of a session by key, for the first that is above all that were scanned of them.
func (p *plain) scan() {
	if p.stage == 0 {
		for _, r := range p.r.All() {
			if len(p.names) == 0 || r.Name > p.names[len(p.names)-1] {
				p.names = append(p.names, r.Name)
				p.Touch(r.Key)
				return
			}
		}
		p.stage = 1
		return
	}
	for _, s := range p.p.Sessions() {
		for _, k := range s.Pins {
			if s.Number == p.stage-1 && (len(p.pins) == 0 || order(k, p.pins[len(p.pins)-1]) > 0) {
				p.pins = append(p.pins, k)
				p.Touch(k)
				return
			}
		}
	}
	p.stage, p.pins = p.stage+1, nil
	if p.stage == 17 {
		p.phase = api.Trace
	}
}

// kids are those of a key.
func (p *plain) kids(k api.Key) ([]api.Key, api.Errno) {
	e, ok := p.x.Get(k)
	if !ok {
		return nil, api.ErrGone
	}
	b, no := p.a.Read(e.Place, e.Size)
	if no != api.OK {
		return nil, api.ErrBroken
	}
	body, size, no := frame.Unpack(b, 0)
	if no != api.OK || size != e.Size {
		return nil, api.ErrBroken
	}
	o, no := object.Decode(body)
	if no != api.OK {
		return nil, api.ErrBroken
	}
	return object.Kids(o), api.OK
}

// piece is one of marking.
func (p *plain) piece(bottom bool) api.Errno {
	at := len(p.list) - 1
	if bottom {
		at = 0
	}
	g := p.list[at]
	kids, no := p.kids(g.Key)
	if no != api.OK {
		p.errs++
	}
	if no != api.OK || g.Next >= len(kids) {
		p.list = slices.Delete(p.list, at, at+1)
		return no
	}
	p.list[at].Next++
	p.Touch(kids[g.Next])
	return api.OK
}

func (p *plain) sweep() {
	for k, e := range p.x.All() {
		if len(p.looked) > 0 && order(k, p.looked[len(p.looked)-1]) <= 0 {
			continue
		}
		p.looked = append(p.looked, k)
		if e.Mark != p.epoch {
			p.x.Del(k)
			p.a.Dead(e.Place, e.Size)
		}
		return
	}
	p.phase = api.Move
	p.a.Seal()
	p.mover = mover{row: p.a.victims()}
}

// behind tells whether the mover has come to the end of its segment.
func (p *plain) behind() bool { return p.off == len(p.a.segs[p.row[0]].bytes) }

// at is where the mover reads.
func (p *plain) at() api.Place { return api.Place{Seg: p.row[0], Off: p.off} }

func (p *plain) move() {
	switch {
	case len(p.written) > 0:
		p.turn(p.written[0])
	case len(p.row) == 0:
		p.a.finish()
		p.phase = api.Rest
	case p.behind() && p.a.free(p.row[0]):
		p.leave(&p.freed)
	case p.behind():
		p.leave(&p.left)
	default:
		p.moveRecord()
	}
}

func (p *plain) moveRecord() {
	bytes := p.a.segs[p.row[0]].bytes
	b, size, no := frame.Unpack(bytes, p.off)
	if no != api.OK {
		p.leave(&p.left)
		return
	}
	p.key = key.Of(b)
	if e, ok := p.x.Get(p.key); !ok || e.Place != p.at() {
		p.off += size
		return
	}
	to, no := p.a.reserveDest(size)
	if no != api.OK {
		p.leave(&p.left)
		return
	}
	p.a.Write(to, bytes[p.off:p.off+size])
	p.written = []api.Room{{Place: to, Size: size}}
}

func (p *plain) turn(to api.Room) {
	old := api.Room{Place: p.at(), Size: to.Size}
	turned := p.x.Move(p.key, old.Place, to.Place)
	p.a.Settle(to.Place, to.Size, turned)
	if turned {
		p.a.Dead(old.Place, old.Size)
		p.moved++
	}
	p.written = nil
	p.off += to.Size
}

func (p *plain) leave(count *int) {
	*count++
	p.row, p.off = p.row[1:], 0
}
