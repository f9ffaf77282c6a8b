package arena_test

import (
	"testing"
)

// P10.3, P10.4: sizes at, within and outside of their limits, at either end.
func TestReserveSizes(t *testing.T) {
	sizes := `
		Reserve 0           | ErrArg
		Reserve -1          | ErrArg
		Reserve 101         | ErrArg
		Reserve max         | ErrArg
		Reserve min         | ErrArg
		ReserveDest 0       | ErrArg
		ReserveDest -1      | ErrArg
		ReserveDest 101     | ErrArg
		ReserveDest max     | ErrArg
		ReserveDest min     | ErrArg`
	a := made(t, 3, 100)
	plays(t, "P10.3, P10.4: of a new one", a, sizes)
	plays(t, "P10.3, P10.4", a, `
		Reserve 1           | 0.0 OK
		segments            | o1 0 1 0, f0 0 0 0, s0 0 0 0
		Reserve 100         | 1.0 OK
		segments            | x1 0 1 0, o100 0 1 0, s0 0 0 0
		ReserveDest 1       | 2.0 OK
		segments            | x1 0 1 0, o100 0 1 0, m1 0 1 0`)
	plays(t, "P10.3, P10.4: of a full one", a, sizes)
	plays(t, "P10.4", made(t, 3, 64), `
		ReserveDest 64      | 2.0 OK
		ReserveDest 65      | ErrArg
		Reserve 64          | 0.0 OK
		Reserve 65          | ErrArg
		segments            | o64 0 1 0, f0 0 0 0, m64 0 1 0`)
	plays(t, "P10.3: the greatest", made(t, 64, 65536), `
		Reserve 65537       | ErrArg
		Reserve 65536       | 0.0 OK
		Reserve 65536       | 1.0 OK
		ReserveDest 65537   | ErrArg
		ReserveDest 65536   | 63.0 OK
		ReserveDest 65536   | 2.0 OK
		Reserve 1           | 3.0 OK`)
}

// P10.3: room in the open segment, just so much, one byte too few.
func TestReserveOpen(t *testing.T) {
	plays(t, "P10.3: just so much", made(t, 4, 100), `
		Reserve 30          | 0.0 OK
		Reserve 30          | 0.30 OK
		Reserve 40          | 0.60 OK
		segments            | o100 0 3 0, f0 0 0 0, f0 0 0 0, s0 0 0 0
		Reserve 1           | 1.0 OK
		states              | xofs`)
	plays(t, "P10.3: a byte too few", made(t, 4, 100), `
		Reserve 30          | 0.0 OK
		Reserve 71          | 1.0 OK
		segments            | x30 0 1 0, o71 0 1 0, f0 0 0 0, s0 0 0 0
		Reserve 29          | 1.71 OK
		Reserve 100         | 2.0 OK
		Pending             | 0.0+30 1.0+71 1.71+29 2.0+100`)
	plays(t, "P10.3: full", made(t, 3, 100), `
		Reserve 100         | 0.0 OK
		Reserve 99          | 1.0 OK
		Reserve 2           | ErrFull
		Reserve 100         | ErrFull
		Reserve 101         | ErrArg
		Reserve 1           | 1.99 OK
		Reserve 1           | ErrFull
		states              | xos`)
	// Neither the mover's segment nor a sealed one has room for Reserve.
	plays(t, "P10.3: full, though others are not", made(t, 3, 100), `
		ReserveDest 1       | 2.0 OK
		Reserve 1           | 0.0 OK
		Seal                | -
		Reserve 1           | 1.0 OK
		Seal                | -
		states              | xxm
		Reserve 1           | ErrFull
		ReserveDest 99      | 2.1 OK
		ReserveDest 1       | ErrFull`)
}

// P10.3, P10.4: of the free segments the one with the least number, wherever the open one is; and the spare is the mover's alone.
func TestReserveNext(t *testing.T) {
	a := made(t, 5, 100)
	plays(t, "P10.3: the free one with the least number", a, `
		Reserve 100         | 0.0 OK
		Reserve 100         | 1.0 OK
		Reserve 100         | 2.0 OK
		Settle 0 0 100 0    | OK
		Settle 1 0 100 0    | OK
		Free 1              | OK
		Free 0              | OK
		states              | ffofs
		Reserve 7           | 0.0 OK
		states              | ofxfs
		Reserve 100         | 1.0 OK
		states              | xoxfs
		Reserve 100         | 3.0 OK
		Reserve 100         | ErrFull
		states              | xxxos`)
	plays(t, "P10.4: the spare, then the free one with the least number", made(t, 5, 100), `
		Reserve 100         | 0.0 OK
		ReserveDest 60      | 4.0 OK
		ReserveDest 40      | 4.60 OK
		states              | offfm
		ReserveDest 1       | 1.0 OK
		states              | omffx
		ReserveDest 100     | 2.0 OK
		states              | oxmfx
		ReserveDest 100     | 3.0 OK
		ReserveDest 1       | ErrFull
		Reserve 1           | ErrFull
		states              | oxxmx
		Pending             | 0.0+100 1.0+1 2.0+100 3.0+100 4.0+60 4.60+40`)
	plays(t, "P10.4: a spare that lies ahead of free ones and behind", made(t, 5, 100), `
		Reserve 100         | 0.0 OK
		Reserve 100         | 1.0 OK
		ReserveDest 9       | 4.0 OK
		Settle 1 0 100 0    | OK
		Seal                | -
		Free 1              | OK
		states              | xsffm
		ReserveDest 100     | 1.0 OK
		states              | xmffx
		Settle 0 0 100 0    | OK
		Free 0              | OK
		states              | smffx
		ReserveDest 1       | 0.0 OK
		states              | mxffx`)
}

// P10.4: one byte too few at the mover's end; ErrFull, and the mover's is the mover's still.
func TestReserveDest(t *testing.T) {
	plays(t, "P10.4", made(t, 3, 100), `
		ReserveDest 50      | 2.0 OK
		ReserveDest 51      | 0.0 OK
		states              | mfx
		ReserveDest 49      | 0.51 OK
		Reserve 10          | 1.0 OK
		ReserveDest 1       | ErrFull
		segments            | m100 0 2 0, o10 0 1 0, x50 0 1 0
		Reserve 90          | 1.10 OK
		Reserve 1           | ErrFull`)
	plays(t, "P10.4: the open one is not the mover's", made(t, 3, 100), `
		Reserve 10          | 0.0 OK
		ReserveDest 10      | 2.0 OK
		Reserve 10          | 0.10 OK
		ReserveDest 10      | 2.10 OK
		ReserveDest 90      | 1.0 OK
		states              | omx
		ReserveDest 11      | ErrFull
		ReserveDest 10      | 1.90 OK
		Reserve 80          | 0.20 OK
		Reserve 1           | ErrFull`)
}

// P10.3, P10.4: the bytes of new room are 0, also where others were ahead of a Free, and at either end.
func TestReserveClear(t *testing.T) {
	a := made(t, 3, 64)
	plays(t, "P10.3: new room", a, `
		Reserve 4           | 0.0 OK
		Read 0 0 4          | 00000000 OK
		Write 0 0 4 250     | OK
		Reserve 4           | 0.4 OK
		Read 0 0 8          | fafbfcfd00000000 OK
		Write 0 4 4 254     | OK
		Settle 0 0 4 1      | OK
		Settle 0 4 4 0      | OK
		Reserve 8           | 0.8 OK
		Write 0 8 8 1       | OK
		Settle 0 8 8 0      | OK
		bytes 0             | fafbfcfdfeff00010102030405060708
		Dead 0 0 4          | OK
		Seal                | -
		Free 0              | OK
		states              | ffs
		bytes 0             |`)
	plays(t, "P10.3: room in a segment that was freed", a, `
		Reserve 2           | 0.0 OK
		bytes 0             | 0000
		Write 0 0 2 9       | OK
		Reserve 15          | 0.2 OK
		bytes 0             | 090a000000000000000000000000000000
		Write 0 2 15 1      | OK
		Settle 0 0 2 0      | OK
		Settle 0 2 15 0     | OK
		ReserveDest 3       | 2.0 OK
		Read 2 0 3          | 000000 OK
		Seal                | -
		Free 0              | OK
		states              | sfm`)
	plays(t, "P10.4: the mover's room in it", a, `
		ReserveDest 62      | 0.0 OK
		Read 0 0 8          | 0000000000000000 OK
		Read 0 54 8         | 0000000000000000 OK
		Write 0 61 1 7      | OK
		ReserveDest 2       | 0.62 OK
		Read 0 60 4         | 00070000 OK`)
}
