package table_test

import "testing"

// P11.4: Probes of ways that go round the end of an array.
func TestProbesRound(t *testing.T) {
	both(t, "P11.4: the younger array", itself, `
		Put 7 15 23         | -
		Probes 7 15 23 31   | 1 2 3 4
		Probes 0 1 2 6      | 3 2 1 1
		All                 | 15 23 7
		Del 15              | '15'
		Probes 7 15 23 31   | 1 4 3 4
		Probes 0 1 2 6      | 3 2 1 1
		books               | 2 8 1 0`)
	both(t, "P11.4: the longest", itself, `
		Put 2..7            | -
		Probes 10 2 7 15 0  | 7 1 1 2 1
		Del 2..7            | '2' '3' '4' '5' '6' '7'
		Probes 10 2 7 15 0  | 7 7 2 2 1
		books               | 0 8 6 0`)
	both(t, "P11.4: the elder array", itself, `
		Put 7 15 23 31      | -
		Put 39 47 55        | -
		books               | 7 16 0 8
		All                 | 15 23 31 39 47 55 7
		Probes 7 15 55 63   | 2 3 8 9
		Probes 6 14 8       | 2 2 8
		Put 63=x            | -
		books               | 8 16 0 0
		All                 | 31 47 63=x 23 39 55 7 15
		Probes 15 31 47 63  | 1 2 3 4
		Probes 23 39 55 7   | 1 2 3 4
		Probes 79 71 3      | 5 5 1`)
}

// P11.4: each number behind each call; a look changes none.
func TestBooks(t *testing.T) {
	both(t, "P11.4", itself, `
		books               | 0 8 0 0
		Put 1               | -
		books               | 1 8 0 0
		Put 1=a             | '1'
		books               | 1 8 0 0
		Del 2               | -
		books               | 1 8 0 0
		Del 1               | 'a'
		books               | 0 8 1 0
		Del 1               | -
		books               | 0 8 1 0
		Get 1               | -
		Probes 1            | 2
		All                 |
		books               | 0 8 1 0
		Put 0..5            | -
		books               | 6 8 0 0
		Del 4               | '4'
		books               | 5 8 1 0
		Put 6               | -
		books               | 6 16 0 8
		Del 0               | '0'
		books               | 5 16 1 0
		Put 16              | -
		books               | 6 16 0 0`)
	both(t, "P11.4: tombs of the elder array are not counted", itself, `
		Put 0..24           | -
		books               | 25 64 0 32
		Del 24 23           | '24' '23'
		books               | 23 64 0 16
		Del 0               | '0'
		books               | 22 64 1 8
		Put 22=a            | '22'
		books               | 22 64 1 0`)
}
