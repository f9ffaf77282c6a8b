package pins_test

import (
	"testing"

	"gleaner/api"
)

// P14.3: Enter once and several times, Leave as often, and once more.
func TestBusy(t *testing.T) {
	both(t, "P14.3: busy", `
		Open 4              | OK
		Busy 4              | 0
		Leave 4             | ErrState
		Busy 4              | 0
		Enter 4             | OK
		Busy 4              | 1
		Leave 4             | OK
		Busy 4              | 0
		Leave 4             | ErrState
		Busy 4              | 0
		Enter 4 4 4         | OK OK OK
		Busy 4              | 3
		Sessions            | 4:3[]
		Leave 4             | OK
		Busy 4              | 2
		Enter 4             | OK
		Busy 4              | 3
		Leave 4 4 4 4 4     | OK OK OK ErrState ErrState
		Busy 4              | 0
		IsOpen 4            | true`)
}

// P14.3: Enter, Leave and Busy of numbers that are no session's, and of sessions that are not open: that error comes ahead of ErrState.
func TestBusyOfNone(t *testing.T) {
	both(t, "P14.3: no session", `
		Open 0 15           | OK OK
		Enter -1 16 least greatest 1 14 | ErrSession ErrSession ErrSession ErrSession ErrSession ErrSession
		Leave -1 16 least greatest 1 14 | ErrSession ErrSession ErrSession ErrSession ErrSession ErrSession
		Busy -1 16 least greatest 1 14 | 0 0 0 0 0 0
		Busy 0 15           | 0 0
		Enter 15            | OK
		Leave 15            | OK
		Close 15            | OK
		Enter 15            | ErrSession
		Leave 15            | ErrSession
		Busy 15             | 0
		Sessions            | 0:0[]`)
}

// P14.3: each session is busy for itself.
func TestBusyAlone(t *testing.T) {
	both(t, "P14.3: each for itself", `
		Open 0 1            | OK OK
		Enter 0 0 1         | OK OK OK
		Busy 0 1            | 2 1
		Leave 1 1           | OK ErrState
		Busy 0 1            | 2 0
		Close 1 0           | OK ErrBusy
		Sessions            | 0:2[]
		Open 1              | OK
		Leave 1             | ErrState
		Busy 0 1            | 2 0`)
}

// P14.3: very many times.
func TestBusyOften(t *testing.T) {
	p := made(t)
	p.Open(3)
	const often = 70000
	for n := range often {
		if no := p.Enter(3); no != api.OK || p.Busy(3) != n+1 {
			t.Fatalf("P14.3: Enter: %s; %d times busy, not %d", code(no), p.Busy(3), n+1)
		}
	}
	is(t, "P14.1: Close", p.Close(3), api.ErrBusy)
	for n := range often {
		if no := p.Leave(3); no != api.OK || p.Busy(3) != often-n-1 {
			t.Fatalf("P14.3: Leave: %s; %d times busy, not %d", code(no), p.Busy(3), often-n-1)
		}
	}
	is(t, "P14.3: once more", p.Leave(3), api.ErrState)
	is(t, "P14.1: Close", p.Close(3), api.OK)
}
