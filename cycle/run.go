package cycle

import (
	"gleaner/api"
	"gleaner/compact"
	"gleaner/sweep"
)

// run is how far a collection has come: each phase begins with one of its own, so that nothing of another phase, or of another collection, is left in it. At rest it is zero.
type run struct {
	phase   api.Phase
	scanned                // in Scan
	sweeper *sweep.Sweeper // in Sweep
	mover   *compact.Mover // in Move
}

// scanned is how far Scan has come: in the roots, and behind their none in the pins of a session.
type scanned struct {
	rooted  bool
	session int
	begun   bool // false: no root, or no pin of this session, was scanned
	name    string
	key     api.Key
}

// piece does the phase's next piece.
func (c *Cycle) piece() {
	switch c.phase {
	case api.Scan:
		c.scan()
	case api.Trace:
		c.trace()
	case api.Sweep:
		c.sweep()
	case api.Move:
		c.move()
	}
}

func (c *Cycle) scan() {
	if c.rooted {
		c.scanPin()
	} else {
		c.scanRoot()
	}
}

func (c *Cycle) scanRoot() {
	root, ok := c.roots.Next(c.name, !c.begun)
	if !ok {
		c.scanned = scanned{rooted: true}
		return
	}
	c.name, c.begun = root.Name, true
	c.Touch(root.Key)
}

func (c *Cycle) scanPin() {
	k, ok := c.pins.Next(c.session, c.key, !c.begun)
	switch {
	case ok:
		c.key, c.begun = k, true
		c.Touch(k)
	case c.session < api.Sessions-1:
		c.scanned = scanned{rooted: true, session: c.session + 1}
	default:
		c.run = run{phase: api.Trace}
	}
}

func (c *Cycle) trace() {
	if did, _ := c.marker.Piece(c.epoch, false); !did {
		c.run = run{phase: api.Sweep, sweeper: sweep.New(c.arena, c.index, c.epoch)}
	}
}

func (c *Cycle) sweep() {
	if c.sweeper.Act() {
		c.run = run{phase: api.Move, mover: compact.New(c.arena, c.index)}
	}
}

func (c *Cycle) move() {
	if c.mover.Act() {
		c.run = run{}
	}
}
