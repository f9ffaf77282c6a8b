package object_test

import (
	"math"
	"slices"
	"strings"
	"testing"

	"gleaner/api"
	"gleaner/object"
)

// foreign is an object of no kind with one field that is not zero, for each field, and the kind that it is of.
func foreign() map[string]struct {
	kind api.Kind
	lay  func(o *api.Object)
} {
	return map[string]struct {
		kind api.Kind
		lay  func(o *api.Object)
	}{
		"Data":    {api.Blob, func(o *api.Object) { o.Data = []byte{0} }},
		"Parts":   {api.List, func(o *api.Object) { o.Parts = make([]api.Part, 1) }},
		"Items":   {api.Tree, func(o *api.Object) { o.Items = []api.Item{item("a")} }},
		"Tree":    {api.Snap, func(o *api.Object) { o.Tree[31] = 1 }},
		"Parents": {api.Snap, func(o *api.Object) { o.Parents = make([]api.Key, 1) }},
		"Time":    {api.Snap, func(o *api.Object) { o.Time = math.MinInt64 }},
		"Note":    {api.Snap, func(o *api.Object) { o.Note = "\x00" }},
	}
}

// P4.1: of all kinds that there are and are not.
func TestCheckKind(t *testing.T) {
	for k := range 256 {
		o := api.Object{Kind: api.Kind(k)}
		if k >= 1 && k <= 4 {
			taken(t, "an empty one", o)
			continue
		}
		refused(t, "a kind that is none", o, api.ErrKind)
		refused(t, "a kind that is none, all else wrong", api.Object{
			Kind: api.Kind(k), Data: make([]byte, 9000), Parts: make([]api.Part, 200),
			Items: make([]api.Item, 200), Parents: make([]api.Key, 200), Note: "\xff",
		}, api.ErrKind)
	}
}

// P4.1: each field with each kind.
func TestCheckForeign(t *testing.T) {
	for name, f := range foreign() {
		for k := api.Blob; k <= api.Snap; k++ {
			o := api.Object{Kind: k}
			f.lay(&o)
			if k == f.kind {
				taken(t, name+" of its own", o)
			} else {
				refused(t, name+" of another kind", o, api.ErrForeign)
			}
		}
	}
}

// P4.1: a list that is empty is zero, nil or not.
func TestCheckEmptyLists(t *testing.T) {
	for k := api.Blob; k <= api.Snap; k++ {
		taken(t, "lists that are empty and not nil", api.Object{
			Kind: k, Data: []byte{}, Parts: []api.Part{}, Items: []api.Item{}, Parents: []api.Key{},
		})
		room := make([]api.Key, 3)
		taken(t, "lists with spare room alone", api.Object{Kind: k, Data: make([]byte, 0, 9), Parents: room[:0]})
	}
}

// P4.1: ErrForeign comes ahead of all that a kind asks of its own fields.
func TestCheckForeignFirst(t *testing.T) {
	many := tree(items(129)...)
	many.Time = 1
	refused(t, "too many and foreign", many, api.ErrForeign)
	great := list(api.Part{Size: math.MaxUint64})
	great.Data = []byte{1}
	refused(t, "too great and foreign", great, api.ErrForeign)
	name := tree(item(""))
	name.Note = "x"
	refused(t, "a wrong name and foreign", name, api.ErrForeign)
	note := snap("\xff")
	note.Items = items(1)
	refused(t, "a wrong note and foreign", note, api.ErrForeign)
	large := blob(make([]byte, 9000))
	large.Tree = keyOf(1)
	refused(t, "too large and foreign", large, api.ErrForeign)
}

// P4.1: 128 kids and 129, and ErrMany ahead of what follows it.
func TestCheckMany(t *testing.T) {
	taken(t, "128 parts", list(make([]api.Part, 128)...))
	taken(t, "128 items", tree(items(128)...))
	taken(t, "127 parents", snap("", make([]api.Key, 127)...))
	refused(t, "129 parts", list(make([]api.Part, 129)...), api.ErrMany)
	refused(t, "129 items", tree(items(129)...), api.ErrMany)
	refused(t, "128 parents", snap("", make([]api.Key, 128)...), api.ErrMany)
	refused(t, "129 parts that are too great", list(slices.Repeat([]api.Part{{Size: 1 << 63}}, 129)...), api.ErrMany)
	refused(t, "129 items without names", tree(make([]api.Item, 129)...), api.ErrMany)
	refused(t, "129 items that do not rise", tree(slices.Repeat(items(1), 129)...), api.ErrMany)
	refused(t, "128 parents with a wrong note", snap("\xff", make([]api.Key, 128)...), api.ErrMany)
	refused(t, "many items, too large", tree(slices.Repeat([]api.Item{item(strings.Repeat("n", 64))}, 500)...), api.ErrMany)
	refused(t, "very many parts", list(make([]api.Part, 1<<20)...), api.ErrMany)
}

// P4.1: sizes together, as whole numbers of any size.
func TestCheckTotal(t *testing.T) {
	sizes := func(s ...uint64) api.Object {
		o := list()
		for _, v := range s {
			o.Parts = append(o.Parts, api.Part{Size: v})
		}
		return o
	}
	const most = math.MaxInt64
	taken(t, "none", sizes())
	taken(t, "the most", sizes(most))
	taken(t, "the most, and nothing", sizes(0, most, 0))
	taken(t, "the most, in two", sizes(1, most-1))
	taken(t, "the most, in 127 and 1", sizes(append(slices.Repeat([]uint64{1 << 56}, 127), 1<<56-1)...))
	for what, o := range map[string]api.Object{
		"one more":              sizes(most + 1),
		"one more, in two":      sizes(most, 1),
		"one more, in three":    sizes(1, most-1, 1),
		"2^63 in 128":           sizes(slices.Repeat([]uint64{1 << 56}, 128)...),
		"2^64 - 1":              sizes(math.MaxUint64),
		"2^64 in two":           sizes(1<<63, 1<<63),
		"2^64, one is great":    sizes(math.MaxUint64, 1),
		"2^64, small one first": sizes(1, math.MaxUint64),
		"2^64 in three":         sizes(most, most, 2),
		"2^64 in 128":           sizes(slices.Repeat([]uint64{1 << 57}, 128)...),
		"2^64 + 5":              sizes(most, most, 7),
		"2^65":                  sizes(1<<63, 1<<63, 1<<63, 1<<63),
		"2^71 and less":         sizes(slices.Repeat([]uint64{math.MaxUint64}, 128)...),
	} {
		refused(t, "sizes of "+what, o, api.ErrTotal)
	}
	taken(t, "an item of any size", tree(api.Item{Name: "a", Mode: api.File, Size: math.MaxUint64}, api.Item{Name: "b", Mode: api.Long, Size: math.MaxUint64}))
}

// names tells of some texts whether they are names.
func names() map[string]bool {
	return map[string]bool{
		"": false, ".": false, "..": false, "/": false, "\x00": false, "a/b": false, "/a": false, "a/": false,
		"a\x00": false, "\x00a": false, "a\x00b": false, "./": false,
		"a": true, " ": true, "...": true, "....": true, ".a": true, "a.": true, "..a": true, "a..": true, ". ": true, " .": true,
		"\\": true, "\x01": true, "\x7f": true, "\n": true, "A": true, "-": true,
		"é": true, "日本": true, "\U0010FFFF": true, "\u0080": true, "\uFFFD": true, "a\uFFFDb": true, "\u2215": true, "\uD7FF": true, "\uE000": true,
		"\xff": false, "\x80": false, "a\xff": false, "\xffa": false, "\xc3": false, "a\xc3": false, "\xc3a": false,
		"\xc0\xaf": false, "\xc0\x80": false, "\xe0\x80\xaf": false, "\xed\xa0\x80": false, "\xed\xbf\xbf": false,
		"\xf4\x90\x80\x80": false, "\xf8\x88\x80\x80\x80": false, "\xe2\x82": false, "\uFFFD\xff": false,
		strings.Repeat("n", 64):             true,
		strings.Repeat("n", 65):             false,
		strings.Repeat("n", 9000):           false,
		strings.Repeat("é", 32):             true,
		strings.Repeat("é", 32) + "n":       false,
		strings.Repeat("é", 33):             false,
		strings.Repeat("n", 63) + "é":       false,
		strings.Repeat("n", 62) + "é":       true,
		strings.Repeat("n", 63) + "/":       false,
		strings.Repeat("n", 63) + "\x00":    false,
		strings.Repeat("n", 63) + "\xc3":    false,
		strings.Repeat(".", 64):             true,
		strings.Repeat("\U0001F600", 16):    true,
		strings.Repeat("\U0001F600", 17):    false,
		strings.Repeat("n", 61) + "\u20ac":  true,
		strings.Repeat("n", 62) + "\u20ac":  false,
		strings.Repeat("\x00", 64):          false,
		strings.Repeat("n", 64) + "/\x00..": false,
	}
}

// P4.1, P4.7: names.
func TestNames(t *testing.T) {
	for n, want := range names() {
		if got := object.IsName(n); got != want {
			t.Errorf("P4.7: IsName(%q) is %v", n, got)
		}
		if want {
			taken(t, "the name "+n, tree(item(n)))
		} else {
			refused(t, "the name "+n, tree(item(n)), api.ErrItem)
		}
	}
	for c := range 256 {
		want := c != 0 && c != '/' && c != '.' && c < 128
		if got := object.IsName(string([]byte{byte(c)})); got != want {
			t.Errorf("P4.7: IsName of the byte %x is %v", c, got)
		}
	}
}

// P4.1: items' names rise, byte by byte.
func TestCheckRise(t *testing.T) {
	for _, c := range []struct {
		a, b string
		want api.Errno
	}{
		{"a", "b", api.OK},
		{"a", "aa", api.OK},
		{"Z", "a", api.OK},
		{"z", "é", api.OK},
		{"a b", "a-b", api.OK},
		{"\uFFFF", "\U00010000", api.OK}, // falls as UTF-16 goes
		{"a10", "a9", api.OK},
		{"a", "a", api.ErrRise},
		{"b", "a", api.ErrRise},
		{"aa", "a", api.ErrRise},
		{"a", "Z", api.ErrRise},
		{"é", "z", api.ErrRise},
		{"\U00010000", "\uFFFF", api.ErrRise},
		{"a9", "a10", api.ErrRise},
	} {
		for _, o := range []api.Object{tree(item(c.a), item(c.b)), tree(item("!"), item(c.a), item(c.b))} {
			if c.want == api.OK {
				taken(t, c.a+" ahead of "+c.b, o)
			} else {
				refused(t, c.a+" ahead of "+c.b, o, c.want)
			}
		}
	}
	refused(t, "each above one ahead, not above the last", tree(item("a"), item("c"), item("b")), api.ErrRise)
}

// P4.1: modes, and a Dir with a Size.
func TestCheckMode(t *testing.T) {
	for m := range 256 {
		o := tree(api.Item{Name: "a", Mode: api.Mode(m)})
		great := tree(api.Item{Name: "a", Mode: api.Mode(m), Size: 1 << 63})
		switch {
		case m < 1 || m > 4:
			refused(t, "a mode that is none", o, api.ErrMode)
			refused(t, "a mode that is none, with a Size", great, api.ErrMode)
		case m == 3:
			taken(t, "a Dir", o)
			refused(t, "a Dir with a Size", great, api.ErrMode)
			refused(t, "a Dir with a Size of 1", tree(api.Item{Name: "a", Mode: api.Dir, Size: 1}), api.ErrMode)
		default:
			taken(t, "a mode", o)
			taken(t, "a mode with a Size", great)
		}
	}
}

// P4.1: item by item, and of each its name, then its order, then its mode.
func TestCheckItemByItem(t *testing.T) {
	bad := func(name string) api.Item { return api.Item{Name: name, Mode: 9} }
	for what, c := range map[string]struct {
		o    api.Object
		want api.Errno
	}{
		"a wrong name and mode":                   {tree(bad("")), api.ErrItem},
		"a wrong name that is below, wrong mode":  {tree(item("b"), bad("a/")), api.ErrItem},
		"a name that falls, and a wrong mode":     {tree(item("b"), bad("a")), api.ErrRise},
		"a wrong mode ahead of a wrong name":      {tree(bad("a"), item("")), api.ErrMode},
		"a wrong mode ahead of a name that falls": {tree(bad("b"), item("a")), api.ErrMode},
		"a name that falls ahead of a wrong name": {tree(item("b"), item("a"), item("..")), api.ErrRise},
		"a wrong name ahead of a name that falls": {tree(item(".."), item("b"), item("a")), api.ErrItem},
		"the last of many":                        {tree(append(items(127), bad("z"))...), api.ErrMode},
	} {
		refused(t, what, c.o, c.want)
	}
}

// P4.1: notes.
func TestCheckNote(t *testing.T) {
	for _, n := range []string{"", "x", "\x00", "a/b", "\n", "\uFFFD", strings.Repeat("n", 1024), strings.Repeat("é", 512), "."} {
		taken(t, "the note "+n, snap(n))
	}
	for _, n := range []string{
		strings.Repeat("n", 1025), strings.Repeat("é", 512) + "n", strings.Repeat("é", 513), strings.Repeat("n", 1023) + "é",
		"\xff", "a\xc3", "\xed\xa0\x80", "\xc0\x80", strings.Repeat("n", 1023) + "\xc3", strings.Repeat("\xff", 1025), strings.Repeat("n", 9000),
	} {
		refused(t, "the note "+n, snap(n), api.ErrNote)
	}
}

// P4.1: encodings of 8192 and of 8193 bytes, and that ErrLarge comes last.
func TestCheckLarge(t *testing.T) {
	taken(t, "a blob of 8191 bytes", blob(make([]byte, 8191)))
	for _, n := range []int{8192, 8193, 8194, 1 << 20} {
		refused(t, "a blob above its bound", blob(make([]byte, n)), api.ErrLarge)
	}
	taken(t, "a tree of 8192 bytes", sized(t, 8192))
	refused(t, "a tree of 8193 bytes", sized(t, 8193), api.ErrLarge)
	refused(t, "a tree of 9000 bytes", sized(t, 9000), api.ErrLarge)
	o := sized(t, 8193)
	o.Items[len(o.Items)-1].Mode = 5
	refused(t, "too large, with a wrong mode", o, api.ErrMode)
	o.Items[len(o.Items)-1].Name = strings.Repeat("z", 65)
	refused(t, "too large, with a wrong name", o, api.ErrItem)
	full := tree(items(128)...)
	for i := range full.Items {
		full.Items[i].Name += strings.Repeat("y", 59)
		full.Items[i].Size = math.MaxUint64
	}
	refused(t, "128 items, each as long as it may be", full, api.ErrLarge)
	// A list and a snapshot that are as long as they may be stay below the bound.
	wide := list(slices.Repeat([]api.Part{{Key: keyOf(1), Size: 1 << 56}}, 127)...)
	taken(t, "a long list", wide)
	taken(t, "a long snapshot", snap(strings.Repeat("n", 1024), make([]api.Key, 127)...))
}
