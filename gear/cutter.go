package gear

import "gleaner/api"

// Cutter cuts what comes bit by bit.
type Cutter struct {
	rule  api.Cut           // the zero rule, which may not be: no call made this Cutter
	ends  func(b byte) bool // of the piece that held begins
	held  []byte
	ended bool
}

// NewCutter makes one (P5.5).
func NewCutter(r api.Cut) (*Cutter, api.Errno) {
	if no := Check(r); no != api.OK {
		return nil, no
	}
	return &Cutter{rule: r, ends: ender(r)}, api.OK
}

// ready tells whether c takes anything.
func (c *Cutter) ready() api.Errno {
	switch {
	case c == nil || c.rule == api.Cut{}:
		return api.ErrNil
	case c.ended:
		return api.ErrState
	}
	return api.OK
}

// Write takes further bytes: the pieces that are whole now (P5.5).
func (c *Cutter) Write(b []byte) ([][]byte, api.Errno) {
	if no := c.ready(); no != api.OK {
		return nil, no
	}
	var whole [][]byte
	for _, x := range b {
		c.held = append(c.held, x)
		if c.ends(x) {
			whole = append(whole, c.give())
			c.ends = ender(c.rule)
		}
	}
	return whole, api.OK
}

// give hands the held bytes out for good: their room is never written to again.
func (c *Cutter) give() []byte {
	out := c.held
	c.held = nil
	return out
}

// End ends it: the last piece (P5.5).
func (c *Cutter) End() ([]byte, api.Errno) {
	if no := c.ready(); no != api.OK {
		return nil, no
	}
	c.ended = true
	c.ends = nil
	return c.give(), api.OK
}

// Held is how many bytes wait for their piece's end (P5.5).
func (c *Cutter) Held() int {
	if c == nil {
		return 0
	}
	return len(c.held)
}
