package roots

import (
	"strconv"
	"testing"

	"gleaner/api"
)

// nodes tells each node of a tree.
func (n *node) nodes(tell func(*node)) {
	if n != nil {
		tell(n)
		n.left.nodes(tell)
		n.right.nodes(tell)
	}
}

func (n *node) deep() int {
	if n == nil {
		return 0
	}
	return 1 + max(n.left.deep(), n.right.deep())
}

// sound holds of each node its size, its sides' weights, and that no side is far too heavy.
func sound(t *testing.T, top *node) {
	t.Helper()
	top.nodes(func(n *node) {
		if n.size != n.left.count()+1+n.right.count() {
			t.Errorf("a node of %d over %d and %d", n.size, n.left.count(), n.right.count())
		}
		l, r := n.left.weight(), n.right.weight()
		if l > 3*r || r > 3*l {
			t.Errorf("sides of %d and %d", l, r)
		}
	})
}

// Ways: a version shares with the one ahead of it all that is unchanged: nodes are never written to again, and a change makes anew what lies on its way alone.
func TestShared(t *testing.T) {
	for game := range 8 {
		r := New()
		if game%2 == 1 {
			var list []api.Root
			for i := range 64 {
				list = append(list, api.Root{Name: "n" + strconv.Itoa(100+i)})
			}
			r, _ = From(list)
			sound(t, r.top())
		}
		seen := map[*node]node{}
		r.top().nodes(func(n *node) { seen[n] = *n })
		chance := uint64(game)
		for n := range 1500 {
			chance = chance*6364136223846793005 + 1442695040888963407
			at := int(chance>>33) % 64
			if game < 4 {
				at = n % 64 // in a row, over and over
			}
			name := "n" + strconv.Itoa(100+at)
			was, deep := r.Version(), r.top().deep()
			if n/64%2 == 1 && game < 4 || game >= 4 && chance>>60 < 6 {
				r.Drop(name)
			} else {
				r.Set(name, api.Key{byte(n)})
			}
			anew := 0
			r.top().nodes(func(n *node) {
				if _, old := seen[n]; !old {
					anew++
					seen[n] = *n
				}
			})
			// A turn makes at most two nodes beside the way anew, and may be at each step of it.
			if r.Version() > was && anew > 3*deep+1 {
				t.Errorf("game %d, change %d: %d nodes made anew in a tree %d deep", game, n, anew, deep)
			}
			sound(t, r.top())
			// With sides of at most three to one a tree of 64 can be no deeper.
			if r.top().deep() > 14 {
				t.Errorf("game %d, change %d: %d roots, %d deep", game, n, r.Len(), r.top().deep())
			}
		}
		for n, then := range seen {
			if *n != then {
				t.Fatalf("game %d: a node was written to: %v, not %v", game, *n, then)
			}
		}
	}
}

// The iterator over the nodes ends where it is told to.
func TestStopped(t *testing.T) {
	var list []api.Root
	for i := range 20 {
		list = append(list, api.Root{Name: "n" + strconv.Itoa(100+i)})
	}
	r, _ := From(list)
	for stop := range 21 {
		var told []api.Root
		for x := range r.top().all() {
			if len(told) == stop {
				break
			}
			told = append(told, x)
		}
		if len(told) != stop {
			t.Fatalf("%d told of %d", len(told), stop)
		}
		for i, x := range told {
			if x != list[i] {
				t.Errorf("%v, not %v", x, list[i])
			}
		}
	}
}
