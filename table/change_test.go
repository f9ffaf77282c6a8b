package table_test

import "testing"

// P11.3: Get of a key in the younger array, in the elder one, in neither.
func TestGet(t *testing.T) {
	both(t, "P11.3", itself, `
		Put 3=a 11=b        | -
		Get 3 11 19 4 0     | 'a' 'b' - - -
		Put 5=              | -
		Get 5               | ''
		Del 3               | 'a'
		Get 3 11 19         | - 'b' -`)
	both(t, "P11.3: while it moves", itself, `
		Put 0..12           | -
		books               | 13 32 0 16
		Get 0 7 8 12        | '0' '7' '8' '12'
		Get 13..40          | -
		Put 20=a            | -
		books               | 14 32 0 8
		Get 3 9 20 13       | '3' '9' 'a' -
		Get 35 41 52 25     | -
		Get 3 9 20 13       | '3' '9' 'a' -
		books               | 14 32 0 8`)
}

// P11.3: what Put answers, and what is there behind it.
func TestPut(t *testing.T) {
	both(t, "P11.3: new ones, and ones that are there", itself, `
		Put 3=a             | -
		Put 3=b             | 'a'
		Put 3=              | 'b'
		Put 3=c             | ''
		Put 11=d            | -
		Put 11=e            | 'd'
		Get 3 11            | 'c' 'e'
		books               | 2 8 0 0
		All                 | 3=c 11=e`)
	both(t, "P11.3: in both arrays", itself, `
		Put 0..24           | -
		books               | 25 64 0 32
		Put 3=a             | '3'
		books               | 25 64 0 24
		Put 20=b            | '20'
		books               | 25 64 0 16
		Probes 3 19 20 21   | 1 2 1 2
		Get 3 19 20 21      | 'a' '19' 'b' '21'
		All                 | 16 17 18 19 21 22 23 24 0 1 2 3=a 4 5 6 7 8 9 10 11 12 13 14 15 20=b
		Probes 147          | 8
		Put 20=c            | 'b'
		Put 24=d            | '24'
		books               | 25 64 0 0
		All                 | 0 1 2 3=a 4 5 6 7 8 9 10 11 12 13 14 15 16 17 18 19 20=c 21 22 23 24=d`)
}

// P11.3: the slot of the elder array in which a key was found is a tomb, over which ways lead on, whether it was put anew or taken out.
func TestElderTombs(t *testing.T) {
	same := func(k int) uint64 { return 0 }
	both(t, "P11.3: put anew", same, `
		Put 0..12           | -
		books               | 13 32 0 16
		Probes 9 11 12 99   | 11 13 14 15
		Put 9=x             | '9'
		books               | 13 32 0 8
		Probes 9 11 12 99   | 9 22 23 24
		All                 | 8 10 11 12 0 1 2 3 4 5 6 7 9=x
		Get 8..13           | '8' 'x' '10' '11' '12' -`)
	both(t, "P11.3: taken out", same, `
		Put 0..12           | -
		Del 9               | '9'
		books               | 12 32 0 8
		Probes 9 11 12 99   | 23 21 22 23
		All                 | 8 10 11 12 0 1 2 3 4 5 6 7
		Get 8..13           | '8' - '10' '11' '12' -`)
}

// P11.3: a pair is laid into the first tomb ahead of the way's first empty slot, or into that one.
func TestPutLays(t *testing.T) {
	both(t, "P11.3: a tomb", itself, `
		Put 1 9 17          | -
		Probes 1 9 17       | 1 2 3
		Del 9               | '9'
		books               | 2 8 1 0
		Put 33=a            | -
		Probes 33 17        | 2 3
		books               | 3 8 0 0
		Del 33 1            | 'a' '1'
		books               | 1 8 2 0
		Put 25=b            | -
		Probes 25 17        | 1 3
		books               | 2 8 1 0
		Put 41=c            | -
		Probes 41 17        | 2 3
		books               | 3 8 0 0
		Put 49=d            | -
		Probes 49           | 4
		All                 | 25=b 41=c 17 49=d`)
	both(t, "P11.3: a tomb behind the first empty slot", itself, `
		Put 1 3             | -
		Del 3               | '3'
		Put 9=a             | -
		Probes 9            | 2
		books               | 2 8 1 0
		Put 17=b            | -
		Probes 17           | 3
		books               | 3 8 0 0
		All                 | 1 9=a 17=b`)
	both(t, "P11.3: a key that is there, behind a tomb", itself, `
		Put 1 9 17          | -
		Del 1               | '1'
		Put 17=a            | '17'
		Probes 9 17         | 2 3
		books               | 2 8 1 0
		All                 | 9 17=a`)
	both(t, "P11.3: round the end", itself, `
		Put 6 14 7 15       | -
		All                 | 7 15 6 14
		Del 14 7            | '14' '7'
		Put 22=a            | -
		All                 | 15 6 22=a
		Put 30=b            | -
		All                 | 30=b 15 6 22=a
		Put 38=c            | -
		All                 | 30=b 15 38=c 6 22=a
		Put 46=d            | -
		books               | 6 8 0 0
		Probes 46 54        | 6 7`)
}

// P11.3: a younger array is begun at one more than three of four slots, full or tombs, and at no fewer.
func TestGrows(t *testing.T) {
	both(t, "P11.3: full slots", itself, `
		Put 0..5            | -
		books               | 6 8 0 0
		Put 0..5            | '0' '1' '2' '3' '4' '5'
		books               | 6 8 0 0
		Put 6               | -
		books               | 7 16 0 8
		All                 | 0 1 2 3 4 5 6
		Put 7               | -
		books               | 8 16 0 0
		Put 8..11           | -
		books               | 12 16 0 0
		Put 12              | -
		books               | 13 32 0 16
		Put 13..23          | -
		books               | 24 32 0 0
		Put 24              | -
		books               | 25 64 0 32
		Put 25..47          | -
		books               | 48 64 0 0
		Put 48              | -
		books               | 49 128 0 64`)
	both(t, "P11.3: tombs", itself, `
		Put 0..5            | -
		Del 0 3 5           | '0' '3' '5'
		books               | 3 8 3 0
		Put 8=a             | -
		books               | 4 8 2 0
		Put 3=b 13=c        | -
		books               | 6 8 0 0
		Del 1               | '1'
		Put 9=d             | -
		books               | 6 8 0 0
		Del 4               | '4'
		books               | 5 8 1 0
		Del 6               | -
		Put 6=e             | -
		books               | 6 16 0 8`)
}

// P11.3: the least power of two that is as many as the elder array's slots and 2 Len + 2: below, at and above one.
func TestGrowsTo(t *testing.T) {
	for _, c := range []struct{ del, books string }{
		{"Del 0..5 | '0' '1' '2' '3' '4' '5'", "1 8 0 8"},
		{"Del 0..4 | '0' '1' '2' '3' '4'", "2 8 0 8"},
		{"Del 0..3 | '0' '1' '2' '3'", "3 8 0 8"},
		{"Del 0..2 | '0' '1' '2'", "4 16 0 8"},
		{"Del 0..1 | '0' '1'", "5 16 0 8"},
		{"Del 0 | '0'", "6 16 0 8"},
		{"Del 99 | -", "7 16 0 8"},
	} {
		both(t, "P11.3: of eight", itself, "Put 0..5 | - \n"+c.del+"\n Put 6 | - \n books |"+c.books)
	}
	for _, c := range []struct{ del, books string }{
		{"Del 0..11 | '0' '1' '2' '3' '4' '5' '6' '7' '8' '9' '10' '11'", "1 16 0 16"},
		{"Del 0..6 | '0' '1' '2' '3' '4' '5' '6'", "6 16 0 16"},
		{"Del 0..5 | '0' '1' '2' '3' '4' '5'", "7 16 0 16"},
		{"Del 0..4 | '0' '1' '2' '3' '4'", "8 32 0 16"},
		{"Del 0 | '0'", "12 32 0 16"},
	} {
		both(t, "P11.3: of sixteen", itself, "Put 0..11 | - \n"+c.del+"\n Put 12 | - \n books |"+c.books)
	}
}

// P11.3: no younger array is begun while the table moves; it may be, once it has come to the elder one's end.
func TestGrowsOnce(t *testing.T) {
	both(t, "P11.3", itself, `
		Put 0..11           | -
		Del 0..5            | '0' '1' '2' '3' '4' '5'
		Put 12              | -
		books               | 7 16 0 16
		Put 13              | -
		books               | 8 16 0 8
		Put 14              | -
		books               | 9 16 0 0
		Put 15 0 1          | -
		books               | 12 16 0 0
		Put 2               | -
		books               | 13 32 0 16`)
	both(t, "P11.3: with tombs from the time in which it moved", itself, `
		Put 0..11           | -
		Del 0..5            | '0' '1' '2' '3' '4' '5'
		Put 12              | -
		Del 6               | '6'
		books               | 6 16 1 8
		Del 7               | '7'
		books               | 5 16 2 0
		Put 13..15 0..1     | -
		books               | 10 16 2 0
		Put 2               | -
		books               | 11 32 0 16`)
}

// P11.3: Del of a key in either array, and of one that is in neither.
func TestDel(t *testing.T) {
	both(t, "P11.3", itself, `
		Put 3=a 11=b 5=     | -
		Del 3               | 'a'
		Del 3               | -
		Del 19 4            | -
		Del 5               | ''
		books               | 1 8 2 0
		Get 3 5 11          | - - 'b'
		Put 3=c             | -
		Get 3               | 'c'
		books               | 2 8 1 0`)
	both(t, "P11.3: while it moves", itself, `
		Put 0..48           | -
		books               | 49 128 0 64
		Del 3               | '3'
		books               | 48 128 1 56
		Del 30              | '30'
		books               | 47 128 1 48
		Del 30 3            | -
		books               | 47 128 1 32
		Get 2..4            | '2' - '4'
		Get 29..31          | '29' - '31'
		Put 45=a            | '45'
		Del 45              | 'a'
		books               | 46 128 2 16
		Del 45              | -
		Put 45=b 3=c        | -
		books               | 48 128 0 0
		Get 45 3            | 'b' 'c'`)
}
