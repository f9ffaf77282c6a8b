package roots_test

import (
	"strconv"
	"strings"
	"testing"

	"gleaner/api"
	"gleaner/roots"
)

// P13.1: whether a name may be, and what all calls that take one say of it.
func judged(t *testing.T, name string, may bool) {
	t.Helper()
	what := strconv.Quote(name)
	is(t, "P13.1: the plain rule of "+what, plainIsName(name), may)
	is(t, "P13.1: IsName of "+what, roots.IsName(name), may)
	set, drop, get, again := "ErrName", "ErrName", "ErrName", "ErrName"
	if may {
		set, drop, get, again = "OK", "OK", "0", "ErrRoot"
	}
	r := made(t)
	is(t, "P13.3: Set of "+what, code(r.Set(name, api.Key{})), set)
	is(t, "P13.5: Get of "+what, found(r.Get(name)), get)
	is(t, "P13.4: Drop of "+what, code(r.Drop(name)), drop)
	is(t, "P13.4: Drop again of "+what, code(r.Drop(name)), again)
	is(t, "P13.5: Get again of "+what, found(r.Get(name)), again)
	is(t, "P13.6: Version behind them of "+what, r.Version() == 2, may)
	is(t, "P13.6: Version behind them of "+what, r.Version() == 0, !may)
	one, no := roots.From([]api.Root{{Name: name}})
	is(t, "P13.2: From of "+what, code(no), set)
	is(t, "P13.2: From of "+what+": a table", one != nil, may)
}

// P13.1: names of 0, 1, 32 and 33 bytes, and others.
func TestLengths(t *testing.T) {
	for n := range 70 {
		for _, b := range []string{"a", "z", "0", "9", "-", "_", ".", "/"} {
			judged(t, strings.Repeat(b, n), n >= 1 && n <= 32)
		}
	}
	judged(t, strings.Repeat("a", 1<<20), false)
	judged(t, "abcdefghijklmnopqrstuvwxyz012345", true)
	judged(t, "6789-_./", true)
	for _, name := range []string{"..", "/", "//", "-", ".", "a/", "/a", "a//b", "../..", "-a", "0", "_"} {
		judged(t, name, true)
	}
}

// P13.1: each byte, first, in the midst and last, and alone.
func TestBytes(t *testing.T) {
	may := 0
	for b := range 256 {
		s := string([]byte{byte(b)})
		ok := strings.Contains("-./0123456789_abcdefghijklmnopqrstuvwxyz", s)
		if ok {
			may++
		}
		full := strings.Repeat("x", 31)
		for _, name := range []string{s, s + "b", "a" + s + "b", "a" + s, s + full, full[:15] + s + full[15:], full + s} {
			judged(t, name, ok)
		}
		judged(t, s+full+"x", false)
		judged(t, full+"x"+s, false)
	}
	is(t, "bytes that may be", may, 40)
	for _, name := range []string{"A", "a b", "é", "ä", "aé", "ａ", "a\x00", "\xff", "\xc3", "a\n", "a\\b", "a+b", "a,b", "a:b", "a`", "a{", "@a", "[a]"} {
		judged(t, name, false)
	}
}
