package mark_test

import (
	"math"
	"slices"
	"strconv"
	"testing"

	"gleaner/api"
	"gleaner/object"
)

// graph is some objects by number: of each the numbers of its kids; those that are touched; those that are not put; those whose records are broken.
type graph struct {
	name   string
	kids   [][]int
	roots  []int
	gone   []int
	broken []int
}

// of is the object of a number, unlike all others.
func (g graph) of(n int, keys []api.Key) api.Object {
	var kids []api.Key
	for _, kid := range g.kids[n] {
		kids = append(kids, keys[kid])
	}
	if len(kids) == 0 {
		return api.Object{Kind: api.Blob, Data: []byte(strconv.Itoa(n))}
	}
	o := thing([]string{"list", "tree", "snap"}[n%3], kids...)
	switch o.Kind {
	case api.List:
		o.Parts[0].Size = uint64(n)
	case api.Tree:
		o.Items[0].Size = uint64(n)
	case api.Snap:
		o.Time = int64(n)
	}
	return o
}

// keys are the objects' own, but for those that stand in an object ahead of them: these have one by their number.
func (g graph) keys(t *testing.T) []api.Key {
	t.Helper()
	keys := make([]api.Key, len(g.kids))
	for n, kids := range g.kids {
		for _, kid := range kids {
			if kid >= n {
				keys[kid] = numbered(kid)
			}
		}
	}
	for n := range g.kids {
		if keys[n] == (api.Key{}) {
			k, no := object.KeyOf(g.of(n, keys))
			is(t, g.name+": a key", no, api.OK)
			keys[n] = k
		}
	}
	return keys
}

func (g graph) has(n int) bool { return !slices.Contains(g.gone, n) }

// leads is to which objects one leads: none, if it is broken.
func (g graph) leads(n int) []int {
	if slices.Contains(g.broken, n) {
		return nil
	}
	return g.kids[n]
}

// reached tells of each number whether it is come to by way of those that were put, how many Pieces that takes, and at how many of them an error is met.
func (g graph) reached() (in []bool, pieces, errors int) {
	in = make([]bool, len(g.kids))
	var find func(n int)
	find = func(n int) {
		if in[n] || !g.has(n) {
			return
		}
		in[n] = true
		pieces += 1 + len(g.leads(n))
		if slices.Contains(g.broken, n) {
			errors++
		}
		for _, kid := range g.leads(n) {
			find(kid)
		}
	}
	for _, n := range g.roots {
		find(n)
	}
	return in, pieces, errors
}

// ways to choose an end, Piece by Piece; each is made anew for each graph.
var ways = []struct {
	name string
	end  func() func(n int) bool
}{
	{"at the top", func() func(int) bool { return func(int) bool { return false } }},
	{"at the bottom", func() func(int) bool { return func(int) bool { return true } }},
	{"in turns", func() func(int) bool { return func(n int) bool { return n%2 == 0 } }},
	{"five at each", func() func(int) bool { return func(n int) bool { return n/5%2 == 1 } }},
	{"drawn", func() func(int) bool { some := dice(3); return func(int) bool { return some.throw(2) == 0 } }},
	{"seldom at the top", func() func(int) bool { some := dice(4); return func(int) bool { return some.throw(9) != 0 } }},
	{"seldom at the bottom", func() func(int) bool { some := dice(5); return func(int) bool { return some.throw(9) == 0 } }},
}

// laid are the objects of a graph in a store, with marks of which none is among some epochs.
func (g graph) laid(t *testing.T, epochs []uint32) (*store, []api.Key) {
	t.Helper()
	s, keys := made(t), g.keys(t)
	for n, k := range keys {
		if !g.has(n) {
			continue
		}
		old := uint32(50 + n%3)
		is(t, "an entry is marked already", slices.Contains(epochs, old), false)
		is(t, g.name+": put", s.put(k, g.of(n, keys), old), true)
		if slices.Contains(g.broken, n) {
			s.spoil(k)
		}
	}
	return s, keys
}

// traced marks what can be come to for an epoch, by Pieces at ends that are chosen, and holds what came of it against the graph.
func (g graph) traced(t *testing.T, s *store, keys []api.Key, epoch uint32, end func(n int) bool, label string) {
	t.Helper()
	in, pieces, errors := g.reached()
	was := map[api.Key]api.Entry{}
	for k, e := range s.x.All() {
		was[k] = e
	}
	touched := make([]bool, len(keys))
	for _, n := range g.roots {
		is(t, label+": Touch", s.Touch(keys[n], epoch), g.has(n) && !touched[n])
		touched[n] = true
	}
	did, met := 0, 0
	for did <= pieces {
		more, no := s.Piece(epoch, end(did))
		if !more {
			is(t, label+": the last Piece", no, api.OK)
			break
		}
		did++
		if no != api.OK {
			is(t, label+": an error", no, api.ErrBroken)
			met++
		}
		if len(keys) < 30 {
			g.coloured(t, s, keys, epoch, label)
		}
	}
	is(t, label+": Pieces", did, pieces)
	is(t, label+": errors", met, errors)
	is(t, label+": the list's length", s.l.Len(), 0)
	for n, k := range keys {
		e, ok := s.x.Get(k)
		is(t, label+": there", ok, g.has(n))
		want := was[k]
		if in[n] {
			want.Mark = epoch
		}
		is(t, label+": the entry of "+strconv.Itoa(n), e, want)
	}
	is(t, label+": the index's length", s.x.Len(), len(was))
}

// coloured holds what is marked and not on the list to having its kids marked, all of those that are there.
func (g graph) coloured(t *testing.T, s *store, keys []api.Key, epoch uint32, label string) {
	t.Helper()
	marked := func(k api.Key) bool {
		e, ok := s.x.Get(k)
		return ok && e.Mark == epoch
	}
	grey := map[api.Key]int{}
	for _, x := range s.l.All() {
		grey[x.Key]++
		if !marked(x.Key) || grey[x.Key] > 1 {
			t.Errorf("%s: %d times on the list, marked: %v", label, grey[x.Key], marked(x.Key))
		}
	}
	for n, k := range keys {
		if !marked(k) || grey[k] > 0 {
			continue
		}
		for _, kid := range g.leads(n) {
			if g.has(kid) && !marked(keys[kid]) {
				t.Errorf("%s: the kid %d of %d, which is gone through, is not marked", label, kid, n)
			}
		}
	}
}

// tried traces a graph in each way alone, and then by epochs that follow one another.
func (g graph) tried(t *testing.T) {
	t.Helper()
	epochs := []uint32{1, 0, math.MaxUint32, 7, 1}
	for _, way := range ways {
		s, keys := g.laid(t, epochs)
		g.traced(t, s, keys, 1, way.end(), "P16.5: "+g.name+", "+way.name)
		if t.Failed() {
			return
		}
	}
	s, keys := g.laid(t, epochs)
	for i, epoch := range epochs {
		way := ways[i%len(ways)]
		g.traced(t, s, keys, epoch, way.end(), "P16.5: "+g.name+", collection "+strconv.Itoa(i)+", "+way.name)
	}
}

// chain is objects each of which has the one ahead of it for its kid.
func chain(n int) [][]int {
	kids := make([][]int, n)
	for i := 1; i < n; i++ {
		kids[i] = []int{i - 1}
	}
	return kids
}

// fan is an object with so many kids, each so often.
func fan(n, often int) [][]int {
	kids := make([][]int, n+1)
	for range often {
		for i := range n {
			kids[n] = append(kids[n], i)
		}
	}
	return kids
}

// layers are so many objects each, which have all of the layer ahead of them for their kids, and one above all.
func layers(deep, wide int) [][]int {
	kids := make([][]int, deep*wide+1)
	for i := wide; i < deep*wide; i++ {
		for j := range wide {
			kids[i] = append(kids[i], (i/wide-1)*wide+j)
		}
	}
	for j := range wide {
		kids[deep*wide] = append(kids[deep*wide], (deep-1)*wide+j)
	}
	return kids
}

// P16.5: graphs of many shapes.
func TestReach(t *testing.T) {
	fork := [][]int{{}, {0}, {0}, {1, 2}, {}, {4, 3, 4}}
	graphs := []graph{
		{name: "nothing"},
		{name: "nothing is touched", kids: fork},
		{name: "a blob", kids: [][]int{{}}, roots: []int{0}},
		{name: "a blob, touched twice", kids: [][]int{{}}, roots: []int{0, 0}},
		{name: "one that is not there", kids: [][]int{{}, {0}}, roots: []int{1}, gone: []int{1}},
		{name: "a fork", kids: fork, roots: []int{5}},
		{name: "a part of it", kids: fork, roots: []int{2}},
		{name: "two parts of it", kids: fork, roots: []int{4, 1}},
		{name: "two that share", kids: fork, roots: []int{1, 2}},
		{name: "one within another", kids: fork, roots: []int{1, 3}},
		{name: "one within another, the greater ahead", kids: fork, roots: []int{5, 0, 3, 5, 0}},
		{name: "two apart", kids: [][]int{{}, {0}, {}, {2, 2}}, roots: []int{3}},
		{name: "a chain", kids: chain(12), roots: []int{11}},
		{name: "a deep chain", kids: chain(1500), roots: []int{1499}},
		{name: "a deep chain, half of it", kids: chain(600), roots: []int{300, 299}},
		{name: "a fan", kids: fan(9, 1), roots: []int{9}},
		{name: "as wide as may be", kids: fan(128, 1), roots: []int{128}},
		{name: "one kid, as often as may be", kids: fan(1, 128), roots: []int{1}},
		{name: "kids one behind the other, again and again", kids: fan(16, 8), roots: []int{16}},
		{name: "layers", kids: layers(4, 5), roots: []int{20}},
		{name: "wide layers", kids: layers(3, 60), roots: []int{180}},
		{name: "deep layers", kids: layers(80, 3), roots: []int{240}},
	}
	for _, g := range graphs {
		g.tried(t)
	}
}

// P16.5: graphs that go round; their keys are not their encodings', of which nothing here asks.
func TestReachRound(t *testing.T) {
	graphs := []graph{
		{name: "itself", kids: [][]int{{0}}, roots: []int{0}},
		{name: "itself, often", kids: [][]int{{0, 0, 0}, {0, 1}}, roots: []int{1}},
		{name: "a ring", kids: [][]int{{1}, {2}, {3}, {0}}, roots: []int{2}},
		{name: "two rings that meet", kids: [][]int{{1, 3}, {2}, {0}, {4}, {0, 0}}, roots: []int{4}},
		{name: "a ring with an end", kids: [][]int{{1, 2}, {0}, {3, 3}, {}, {0}}, roots: []int{1}},
		{name: "all to all", kids: [][]int{{0, 1, 2, 3}, {3, 2, 1, 0}, {0, 2, 1, 3}, {1, 1, 1, 0, 2, 3}}, roots: []int{3, 0}},
	}
	for _, g := range graphs {
		g.tried(t)
	}
}

// P16.5: kids that are partly gone: what nothing else leads to is not come to through them.
func TestReachGone(t *testing.T) {
	fork := [][]int{{}, {0}, {0}, {1, 2}, {}, {4, 3, 4}}
	graphs := []graph{
		{name: "a leaf is gone", kids: fork, roots: []int{5}, gone: []int{0}},
		{name: "a leaf that stands there twice is gone", kids: fork, roots: []int{5}, gone: []int{4}},
		{name: "one of two ways is gone", kids: fork, roots: []int{5}, gone: []int{1}},
		{name: "both ways are gone", kids: fork, roots: []int{5}, gone: []int{1, 2}},
		{name: "both ways and what they lead to", kids: fork, roots: []int{5}, gone: []int{0, 1, 2}},
		{name: "the only way is gone", kids: fork, roots: []int{5}, gone: []int{3}},
		{name: "one of the roots is gone", kids: fork, roots: []int{4, 3, 2}, gone: []int{3}},
		{name: "all are gone", kids: fork, roots: []int{5, 3, 0}, gone: []int{0, 1, 2, 3, 4, 5}},
		{name: "a link of a chain is gone", kids: chain(40), roots: []int{39}, gone: []int{17}},
		{name: "each third of a fan is gone", kids: fan(30, 2), roots: []int{30}, gone: []int{0, 3, 6, 9, 12, 15, 18, 21, 24, 27}},
		{name: "of each layer one is gone", kids: layers(5, 4), roots: []int{20}, gone: []int{0, 5, 10, 15}},
		{name: "a ring's link is gone", kids: [][]int{{1}, {2}, {3}, {0}}, roots: []int{2}, gone: []int{0}},
	}
	for _, g := range graphs {
		g.tried(t)
	}
}

// P16.3, P16.5: some records are broken: they are marked, take a Piece each, which tells so, and lead nowhere.
func TestReachBroken(t *testing.T) {
	fork := [][]int{{}, {0}, {0}, {1, 2}, {}, {4, 3, 4}}
	graphs := []graph{
		{name: "a leaf is broken", kids: fork, roots: []int{5}, broken: []int{0}},
		{name: "the root is broken", kids: fork, roots: []int{5}, broken: []int{5}},
		{name: "one of two ways is broken", kids: fork, roots: []int{5}, broken: []int{2}},
		{name: "both ways are broken", kids: fork, roots: []int{5}, broken: []int{2, 1}},
		{name: "one way is broken, the other one gone", kids: fork, roots: []int{5}, broken: []int{2}, gone: []int{1}},
		{name: "what is not come to is broken", kids: fork, roots: []int{1}, broken: []int{2, 3, 5}},
		{name: "a link is broken", kids: chain(30), roots: []int{29}, broken: []int{11}},
		{name: "all are broken", kids: layers(2, 3), roots: []int{6, 2, 3}, broken: []int{0, 1, 2, 3, 4, 5, 6}},
	}
	for _, g := range graphs {
		g.tried(t)
	}
}

// drawn is a graph by chance; in one that goes round any object may be any one's kid.
func drawn(seed int, round bool) graph {
	some := dice(seed)
	g := graph{name: "drawn " + strconv.Itoa(seed), kids: make([][]int, 1+some.throw(40))}
	most := 1 + some.throw(7)
	for n := range g.kids {
		reach := n
		if round {
			reach = len(g.kids)
		}
		if reach > 0 {
			for range some.throw(most + 1) {
				g.kids[n] = append(g.kids[n], some.throw(reach))
			}
		}
	}
	for range some.throw(4) {
		g.roots = append(g.roots, some.throw(len(g.kids)))
	}
	if seed%3 > 0 {
		for range some.throw(len(g.kids)/4 + 1) {
			g.gone = append(g.gone, some.throw(len(g.kids)))
		}
	}
	if seed%5 == 0 {
		g.broken = []int{some.throw(len(g.kids))}
	}
	return g
}

// P16.5: drawn graphs.
func TestReachDrawn(t *testing.T) {
	come, kept := 0, 0
	for seed := range 120 {
		g := drawn(seed, seed%4 == 3)
		g.tried(t)
		if t.Failed() {
			return
		}
		in, _, _ := g.reached()
		for n := range in {
			if in[n] {
				come++
			} else if g.has(n) {
				kept++
			}
		}
	}
	is(t, "drawn: many are come to, and many are not", come > 500 && kept > 500, true)
}
